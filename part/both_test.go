package part_test

import (
	"slices"
	"testing"

	"parclose/api"
	"parclose/conf"
	"parclose/part"
	"parclose/tasks"
)

// both: a Part, and what it is held against. Each call is made of both.
type both struct {
	t *testing.T
	c *part.Part
	b *plain
	// went: the calls so far, for what a test that went wrong tells.
	went int
}

// newBoth: of a partition and a start that there may be.
func newBoth(t *testing.T, a conf.Part, start int) *both {
	t.Helper()
	b := &both{t: t, c: part.New(a, start), b: newPlain(a, start)}
	if b.c == nil {
		t.Fatalf("New of %v, %d: nil", a, start)
	}
	return b
}

func (b *both) arrive(now int, j tasks.Job) api.Errno {
	b.t.Helper()
	b.went++
	err, want := b.c.Arrive(now, j), b.b.arrive(now, j)
	if err != want {
		b.t.Errorf("Arrive(%d, %v): %d, not %d", now, j, err, want)
	}
	return err
}

// arrives: the same, and besides it is held to an error.
func (b *both) arrives(now int, j tasks.Job, want api.Errno) {
	b.t.Helper()
	if err := b.arrive(now, j); err != want {
		b.t.Errorf("Arrive(%d, %v): %d, and not %d", now, j, err, want)
	}
}

func (b *both) request(server, work int) api.Errno {
	b.t.Helper()
	b.went++
	err, want := b.c.Request(server, work), b.b.request(server, work)
	if err != want {
		b.t.Errorf("Request(%d, %d): %d, not %d", server, work, err, want)
	}
	return err
}

// requests: the same, and besides it is held to an error.
func (b *both) requests(server, work int, want api.Errno) {
	b.t.Helper()
	if err := b.request(server, work); err != want {
		b.t.Errorf("Request(%d, %d): %d, and not %d", server, work, err, want)
	}
}

func (b *both) begin(now int) []part.Event {
	b.t.Helper()
	b.went++
	l, want := b.c.Begin(now), b.b.begin(now)
	if !slices.Equal(l, want) {
		b.t.Errorf("Begin(%d): %v, not %v", now, l, want)
	}
	return l
}

// begins: the same, and besides it is held to its events.
func (b *both) begins(now int, want ...part.Event) {
	b.t.Helper()
	if l := b.begin(now); !slices.Equal(l, want) {
		b.t.Errorf("Begin(%d): %v, and not %v", now, l, want)
	}
}

func (b *both) run() (part.What, tasks.Op, []part.Event) {
	b.t.Helper()
	b.went++
	who, op, l := b.c.Run()
	if wantWho, wantOp, want := b.b.run(); who != wantWho || op != wantOp || !slices.Equal(l, want) {
		b.t.Errorf("Run: %v, %v, %v, not %v, %v, %v", who, op, l, wantWho, wantOp, want)
	}
	return who, op, l
}

// runs: the same, and besides it is held to who runs and to its events; what its Op is the plain one says.
func (b *both) runs(want part.What, events ...part.Event) {
	b.t.Helper()
	if who, _, l := b.run(); who != want || !slices.Equal(l, events) {
		b.t.Errorf("Run: %v, %v, and not %v, %v", who, l, want, events)
	}
}

// runsNobody holds it to that there is none.
func (b *both) runsNobody() {
	b.t.Helper()
	b.nobody()
	b.runs(part.What{})
	b.nobody()
}

func (b *both) pick() (part.What, bool) {
	b.t.Helper()
	who, ok := b.c.Pick()
	if want, is := b.b.pick(); who != want || ok != is {
		b.t.Errorf("Pick: %v, %v, not %v, %v", who, ok, want, is)
	}
	return who, ok
}

// picks: the same, and besides it is held to who is picked.
func (b *both) picks(want part.What) {
	b.t.Helper()
	if who, ok := b.pick(); who != want || !ok {
		b.t.Errorf("Pick: %v, %v, and not %v", who, ok, want)
	}
}

// nobody: the same, where there is none.
func (b *both) nobody() {
	b.t.Helper()
	if who, ok := b.pick(); who != (part.What{}) || ok {
		b.t.Errorf("Pick: %v, %v, and not nobody", who, ok)
	}
}

func (b *both) halt() {
	b.went++
	b.c.Stop()
	b.b.halt()
}

func (b *both) restart() {
	b.went++
	b.c.Restart()
	b.b.halt()
	b.b.up = true
}

func sameJob(a, b tasks.Job) bool {
	return a.Task == b.Task && a.Arrived == b.Arrived && a.Work == b.Work && a.Done == b.Done && slices.Equal(a.Ops, b.Ops)
}

// look: all that a Part tells; twice, as that changes nothing.
func (b *both) look() {
	b.t.Helper()
	for range 2 {
		b.pick()
		if is := b.c.Up(); is != b.b.up {
			b.t.Errorf("Up: %v", is)
		}
		if is := b.c.High(); is != b.b.high {
			b.t.Errorf("High: %v", is)
		}
		if l, want := b.c.Jobs(), b.b.told(); !slices.EqualFunc(l, want, sameJob) {
			b.t.Errorf("Jobs: %v, not %v", l, want)
		}
		for server := -1; server <= maxServers; server++ {
			b.queue(server)
		}
	}
}

func (b *both) queue(server int) {
	b.t.Helper()
	if n, want := b.c.Queue(server), b.b.queue(server); n != want {
		b.t.Errorf("Queue(%d): %d, not %d", server, n, want)
	}
}

// lookFar: the same, and each call with numbers of no task and no server.
func (b *both) lookFar() {
	b.t.Helper()
	b.look()
	for _, n := range numbers {
		b.queue(n)
		if !b.b.isServer(n) {
			b.request(n, 1)
		}
		if !b.b.isTask(n) {
			b.arrive(0, jobOf(n, 1))
		}
	}
	b.look()
}

// stop ends a test that went wrong, so that it tells no more than what went wrong first.
func (b *both) stop(what string) {
	b.t.Helper()
	if b.t.Failed() {
		b.t.Fatalf("%s, %d calls: of %v, jobs %v, requests %v, up %v, high %v", what, b.went, b.b.a, b.b.jobs, b.b.asks, b.b.up, b.b.high)
	}
}

// Short names for who runs, and for events.
func job(n int) part.What    { return part.What{N: n} }
func server(n int) part.What { return part.What{Server: true, N: n} }

func event(kind, a, b int) part.Event { return part.Event{Kind: kind, A: a, B: b} }
func ended(task int) part.Event       { return event(0, task, 0) }
func over(task int) part.Event        { return event(1, task, 0) }
func missed(task int) part.Event      { return event(2, task, 0) }
func dropped(task int) part.Event     { return event(4, task, 0) }
func served(server, number int) part.Event {
	return event(6, server, number)
}

// rose, fell: those of no task.
var rose, fell = event(3, 0, 0), event(5, 0, 0)

// jobOf: one of a task.
func jobOf(task, work int, ops ...tasks.Op) tasks.Job {
	return tasks.Job{Task: task, Work: work, Ops: ops}
}

// opsOf: so many, no two of them alike, and none the zero one.
func opsOf(from, n int) []tasks.Op {
	var l []tasks.Op
	for i := range n {
		l = append(l, tasks.Op{Kind: i % 5, A: from + i + 1, B: -i})
	}
	return l
}

// high: a task whose times are all apart. wide: one with much more in high mode. level: one with nothing more then. low: one that is not Hi.
func high() conf.Task  { return conf.Task{Hi: true, T: 20, D: 15, V: 8, Lo: 3, Top: 6} }
func wide() conf.Task  { return conf.Task{Hi: true, T: 40, D: 30, V: 5, Lo: 1, Top: 30} }
func level() conf.Task { return conf.Task{Hi: true, T: 20, D: 15, V: 9, Lo: 4, Top: 4} }
func low() conf.Task   { return conf.Task{T: 20, D: 12, V: 12, Lo: 3, Top: 3} }
func short() conf.Task { return conf.Task{T: 2, D: 1, V: 1, Lo: 1, Top: 1} }
func long() conf.Task {
	return conf.Task{T: maxPeriod, D: maxPeriod, V: maxPeriod, Lo: maxPeriod, Top: maxPeriod}
}

// mixed: all the tasks there may be, high and low ones by turns.
func mixed() []conf.Task {
	return []conf.Task{high(), low(), wide(), short(), level(), long()}
}

// plainServer, refilled: of both kinds.
func plainServer(c, t int) conf.Server { return conf.Server{C: c, T: t} }
func refilled(c, t int) conf.Server    { return conf.Server{Refill: true, C: c, T: t} }

// whole: a partition of all that there may be.
func whole() conf.Part {
	return conf.Part{Tasks: mixed(), Servers: []conf.Server{plainServer(2, 10), refilled(3, 9), plainServer(1, 4)}, Donees: []int{1, 2}, Acts: [3]uint8{2, 1, 0}}
}

// of: a partition of tasks alone. serving: of servers alone.
func of(l ...conf.Task) conf.Part        { return conf.Part{Tasks: l} }
func serving(l ...conf.Server) conf.Part { return conf.Part{Servers: l} }

func TestP2001TheNumbersThatTheDocumentGives(t *testing.T) {
	if api.OK != 0 || api.ErrArg != 1 || api.ErrThere != 4 || api.ErrFull != 5 || api.ErrSoon != 40 || api.ErrDown != 41 || api.ErrDropped != 42 {
		t.Error("errors are of other numbers than the document says")
	}
	if api.MaxTasks != maxTasks || api.MaxServers != maxServers || api.MaxPeriod != maxPeriod || api.MaxQueue != maxQueue || api.MaxOps != maxOps || api.MaxWork != maxWork || api.MaxTick != maxTick {
		t.Error("limits are other ones than the document says")
	}
	if part.Ended != 0 || part.Over != 1 || part.Missed != 2 || part.Rose != 3 || part.Dropped != 4 || part.Fell != 5 || part.Served != 6 {
		t.Error("events are of other numbers than the document says")
	}
}

package part_test

import (
	"math/rand/v2"
	"slices"
	"testing"

	"parclose/conf"
	"parclose/part"
	"parclose/tasks"
)

// drawing: what a row of calls is drawn by.
type drawing struct {
	*both
	r *rand.Rand
	// now: about which ticks are drawn.
	now int
	// steady: does each tick begin, and most of them run, as in a machine that is stepped?
	steady bool
}

// drawnTask: one that is right, of short times most often.
func drawnTask(r *rand.Rand) conf.Task {
	most := 16
	if r.IntN(6) == 0 {
		most = maxPeriod
	}
	period := 1 + r.IntN(most)
	deadline := 1 + r.IntN(period)
	budget := 1 + r.IntN(min(deadline, 1+r.IntN(8)))
	if r.IntN(5) < 2 {
		return conf.Task{T: period, D: deadline, V: deadline, Lo: budget, Top: budget}
	}
	top := budget + r.IntN(min(deadline-budget, 6)+1)
	return conf.Task{Hi: true, T: period, D: deadline, V: budget + r.IntN(deadline-budget+1), Lo: budget, Top: top}
}

// drawnServer: one that is right, of a short period most often.
func drawnServer(r *rand.Rand) conf.Server {
	most := 16
	if r.IntN(8) == 0 {
		most = maxPeriod
	}
	period := 1 + r.IntN(most)
	return conf.Server{Refill: r.IntN(2) == 0, C: 1 + r.IntN(min(period, 6)), T: period}
}

// drawnPart: of all counts.
func drawnPart(r *rand.Rand) conf.Part {
	var a conf.Part
	for range r.IntN(maxTasks + 1) {
		a.Tasks = append(a.Tasks, drawnTask(r))
	}
	for range r.IntN(maxServers + 1) {
		a.Servers = append(a.Servers, drawnServer(r))
	}
	return a
}

// newDrawing: at 0, somewhere, or near MaxTick; about start, or behind it.
func newDrawing(t *testing.T, seed uint64) *drawing {
	r := rand.New(rand.NewPCG(seed, 20))
	begin := []int{0, r.IntN(maxTick), maxTick - 300}[r.IntN(3)]
	start := []int{begin, begin, begin / 3, min(begin+r.IntN(40), maxTick)}[r.IntN(4)]
	return &drawing{newBoth(t, drawnPart(r), start), r, begin, r.IntN(2) == 0}
}

// any: one of the numbers about which an answer may turn.
func (d *drawing) any() int { return numbers[d.r.IntN(len(numbers))] }

// number: most often one of count, at times next to these, or none at all.
func (d *drawing) number(count int) int {
	switch d.r.IntN(40) {
	case 0:
		return d.any()
	case 1, 2:
		return d.r.IntN(count+2) - 1
	}
	return d.r.IntN(max(count, 1))
}

// work: about a task's budgets.
func (d *drawing) work(task int) int {
	if d.r.IntN(40) == 0 {
		return d.any()
	}
	if !d.b.isTask(task) {
		return 1
	}
	x := d.b.a.Tasks[task]
	return []int{x.Lo, x.Top, x.Lo + d.r.IntN(x.Top-x.Lo+1), 1 + d.r.IntN(x.Lo), x.Top + 1, x.Top + d.r.IntN(5)}[d.r.IntN(6)]
}

// drawnArrive: most often of one there may be.
func (d *drawing) drawnArrive() {
	task := d.number(len(d.b.a.Tasks))
	j := tasks.Job{Task: task, Work: d.work(task)}
	for range d.r.IntN(8) {
		j.Ops = append(j.Ops, tasks.Op{Kind: d.r.IntN(4), A: d.r.IntN(9) - 4, B: d.r.IntN(100)})
	}
	now := d.now
	switch d.r.IntN(30) {
	case 0:
		j.Done = d.any()
	case 1:
		now = d.any()
	case 2:
		j.Ops = make([]tasks.Op, maxOps-1+d.r.IntN(3))
	case 3:
		now = d.now - d.r.IntN(20)
	case 4, 5, 6, 7:
		j.Arrived = d.any()
	}
	d.arrive(now, j)
}

// drawnRequest: most often of a work about C.
func (d *drawing) drawnRequest() {
	server, work := d.number(len(d.b.a.Servers)), 1+d.r.IntN(7)
	if d.r.IntN(40) == 0 {
		work = d.any()
	}
	d.request(server, work)
	for d.r.IntN(30) == 0 {
		for range maxQueue {
			d.request(server, 1+d.r.IntN(2))
		}
	}
}

// drawnBegin: at now most often; or by when a job has to be done, and next to that.
func (d *drawing) drawnBegin() {
	now := d.now
	switch d.r.IntN(40) {
	case 0:
		now = d.any()
	case 1, 2:
		if n := len(d.b.jobs); n > 0 && !d.steady {
			j := d.b.jobs[d.r.IntN(n)]
			now = j.arrived + d.b.a.Tasks[j.task].D + d.r.IntN(3) - 1
		}
	case 3:
		now = d.now - d.r.IntN(30)
	}
	d.begin(now)
}

// tick: as a machine goes that is stepped tick by tick.
func (d *drawing) tick() {
	for d.r.IntN(2) == 0 {
		d.drawnArrive()
	}
	for d.r.IntN(3) == 0 {
		d.drawnRequest()
	}
	d.begin(d.now)
	if d.r.IntN(12) > 0 {
		d.run()
	}
	d.now = min(d.now+1, maxTick)
}

// call: any one of them.
func (d *drawing) call() {
	if d.r.IntN(150) == 0 {
		[]func(){d.halt, d.restart}[d.r.IntN(2)]()
		return
	}
	if !d.b.up && d.r.IntN(6) == 0 {
		d.restart()
		return
	}
	if d.steady && d.r.IntN(8) > 0 {
		d.tick()
		return
	}
	if d.r.IntN(5) == 0 {
		d.now += d.r.IntN(4)
		if d.now > maxTick || d.r.IntN(60) == 0 {
			d.now = max(d.now-d.r.IntN(200), 0)
		}
	}
	[]func(){d.drawnArrive, d.drawnArrive, d.drawnRequest, d.drawnBegin, d.drawnBegin, func() { d.run() }, func() { d.run() }, func() { d.run() }}[d.r.IntN(8)]()
}

func TestP2004DrawnRowsOfCalls(t *testing.T) {
	// Behind how many calls were there jobs and requests, and was a server picked, in low mode, and jobs and requests in high mode?
	var full [2]int
	for seed := range uint64(3000) {
		d := newDrawing(t, seed)
		for range 200 {
			d.call()
			d.look()
			d.stop("drawn calls")
			who, _ := d.c.Pick()
			some := len(d.b.jobs) > 1 && len(d.b.asks) > 1
			if some && who.Server && !d.b.high {
				full[0]++
			}
			if some && d.b.high {
				full[1]++
			}
		}
		d.lookFar()
		d.stop("drawn calls")
	}
	if full[0] < 5000 || full[1] < 5000 {
		t.Errorf("just behind %v calls there were", full)
	}
}

// What is told of drawn calls: how often each event came of Begin and of Run, and how often a row of more than one.
func TestP2004DrawnEvents(t *testing.T) {
	var begun, ran, rows [7]int
	count := func(to *[7]int, l []part.Event) {
		for _, e := range l {
			to[e.Kind]++
		}
		if len(l) > 1 {
			rows[l[len(l)-1].Kind]++
		}
	}
	for seed := range uint64(1500) {
		d := newDrawing(t, 10000+seed)
		for range 200 {
			d.call()
			count(&begun, d.begin(d.now))
			_, _, l := d.run()
			count(&ran, l)
		}
		d.stop("drawn events")
	}
	for kind := range 7 {
		// Of Begin none but Missed and Fell; of Run none but the others, and Fell.
		inBegin, inRun := kind == part.Missed || kind == part.Fell, kind != part.Missed
		if inBegin != (begun[kind] > 0) || inRun != (ran[kind] > 0) {
			t.Errorf("events %d: %d of Begin, %d of Run", kind, begun[kind], ran[kind])
		}
	}
	for kind, n := range rows {
		if last := kind == part.Missed || kind == part.Rose || kind == part.Fell; last && n < 30 || !last && n > 0 {
			t.Errorf("%d rows of more than one end with %d", n, kind)
		}
	}
}

// What a row of calls is made of, each by a number.
func (b *both) byNumber(call, now int) {
	switch call {
	case 0:
		b.arrive(now, jobOf(0, 3, opsOf(now, 2)...))
	case 1:
		b.arrive(now, jobOf(1, 2))
	case 2:
		b.request(0, 1)
	case 3:
		b.request(1, 3)
	case 4, 5:
		b.begin(now)
		b.run()
	case 6:
		b.run()
	case 7:
		b.halt()
	default:
		b.restart()
	}
}

func TestP2004AllShortRowsOfCalls(t *testing.T) {
	const calls, steps = 9, 5
	rows := 1
	for range steps {
		rows *= calls
	}
	l := []conf.Part{
		{Tasks: []conf.Task{{Hi: true, T: 4, D: 4, V: 2, Lo: 1, Top: 3}, {T: 3, D: 2, V: 2, Lo: 2, Top: 2}}, Servers: []conf.Server{plainServer(1, 2), refilled(2, 3)}},
		{Tasks: []conf.Task{{Hi: true, T: 3, D: 3, V: 3, Lo: 2, Top: 2}, {Hi: true, T: 3, D: 3, V: 2, Lo: 1, Top: 2}}, Servers: []conf.Server{refilled(1, 3), plainServer(2, 2)}},
	}
	for _, a := range l {
		// Behind none, and behind some calls that put jobs and requests in.
		for _, ahead := range [][]int{nil, {0, 1, 2, 3}, {0, 3, 4, 1, 2}} {
			for row := range rows {
				b := newBoth(t, a, 0)
				for _, call := range ahead {
					b.byNumber(call, 0)
				}
				// Each at a tick of its own.
				for now := range steps {
					b.byNumber(row%calls, now)
					row /= calls
				}
				b.look()
				b.stop("a short row")
			}
		}
	}
}

func TestP2001TheSameCallsTellTheSame(t *testing.T) {
	for seed := range uint64(150) {
		a, b := newDrawing(t, 20000+seed), newDrawing(t, 20000+seed)
		for range 300 {
			a.call()
			// Looks in between change nothing.
			a.look()
			b.call()
		}
		who, ok := a.c.Pick()
		if other, is := b.c.Pick(); who != other || ok != is || a.c.Up() != b.c.Up() || a.c.High() != b.c.High() {
			t.Fatal("the same calls, and other answers")
		}
		if !slices.EqualFunc(a.c.Jobs(), b.c.Jobs(), sameJob) {
			t.Fatalf("the same calls, and jobs %v and %v", a.c.Jobs(), b.c.Jobs())
		}
		b.look()
		b.stop("the same calls")
	}
}

package part_test

import (
	"slices"
	"testing"

	"parclose/api"
	"parclose/conf"
	"parclose/part"
	"parclose/tasks"
)

// tellsNothing holds a Part that is none to what it tells.
func tellsNothing(t *testing.T, what string, c *part.Part) {
	t.Helper()
	if c.Up() || c.High() {
		t.Errorf("%s: Up, or High: true", what)
	}
	if who, ok := c.Pick(); who != (part.What{}) || ok {
		t.Errorf("%s: Pick: %v, %v", what, who, ok)
	}
	if who, op, l := c.Run(); who != (part.What{}) || op != (tasks.Op{}) || len(l) != 0 {
		t.Errorf("%s: Run: %v, %v, %v", what, who, op, l)
	}
	if l := c.Jobs(); len(l) != 0 {
		t.Errorf("%s: Jobs: %v", what, l)
	}
	for _, n := range numbers {
		if n := c.Queue(n); n != 0 {
			t.Errorf("%s: Queue: %d", what, n)
		}
	}
}

// takesNothing: whatever it is handed, ErrArg is answered.
func takesNothing(t *testing.T, what string, c *part.Part) {
	t.Helper()
	for _, n := range numbers {
		for _, j := range []tasks.Job{{}, jobOf(n, 1), jobOf(0, n), {Work: 1, Done: n}, {Work: 1, Arrived: n}, jobOf(n, 1, opsOf(0, 3)...), jobOf(0, 1, opsOf(0, maxOps+1)...)} {
			for _, now := range []int{n, 0, maxTick} {
				if err := c.Arrive(now, j); err != api.ErrArg {
					t.Errorf("%s: Arrive(%d, %v): %d", what, now, j, err)
				}
			}
		}
		for _, m := range numbers {
			if err := c.Request(n, m); err != api.ErrArg {
				t.Errorf("%s: Request(%d, %d): %d", what, n, m, err)
			}
		}
		if l := c.Begin(n); len(l) != 0 {
			t.Errorf("%s: Begin(%d): %v", what, n, l)
		}
	}
}

// isNone: both, behind each call that does nothing.
func isNone(t *testing.T, what string, c *part.Part) {
	t.Helper()
	for _, call := range []func(){func() {}, c.Stop, c.Restart, c.Restart, c.Stop, c.Stop} {
		call()
		tellsNothing(t, what, c)
		takesNothing(t, what, c)
		tellsNothing(t, what, c)
		if t.Failed() {
			t.FailNow()
		}
	}
}

func TestP2001NilPart(t *testing.T) { isNone(t, "a nil Part", nil) }

func TestP2001PartsThatNewDidNotMake(t *testing.T) {
	var c part.Part
	made := part.New(whole(), 5)
	made.Arrive(5, jobOf(0, 9))
	made.Request(0, 3)
	made.Begin(5)
	made.Run()
	*made = part.Part{}
	for what, a := range map[string]*part.Part{"the zero Part": &c, "a new Part": new(part.Part), "a literal": {}, "one that was made zero": made} {
		isNone(t, what, a)
	}
}

// justMade holds a Part to what a new one tells.
func justMade(t *testing.T, what string, c *part.Part) {
	t.Helper()
	if c == nil {
		t.Fatalf("%s: nil", what)
	}
	if !c.Up() || c.High() {
		t.Errorf("%s: up: %v, high: %v", what, c.Up(), c.High())
	}
	if l := c.Jobs(); len(l) != 0 {
		t.Errorf("%s: Jobs: %v", what, l)
	}
	for _, n := range numbers {
		if n := c.Queue(n); n != 0 {
			t.Errorf("%s: Queue: %d", what, n)
		}
	}
	if who, ok := c.Pick(); who != (part.What{}) || ok {
		t.Errorf("%s: Pick: %v, %v", what, who, ok)
	}
	if who, op, l := c.Run(); who != (part.What{}) || op != (tasks.Op{}) || len(l) != 0 {
		t.Errorf("%s: Run: %v, %v, %v", what, who, op, l)
	}
}

func TestP2002NewOfSoMany(t *testing.T) {
	for n := range maxTasks + 1 {
		for m := range maxServers + 1 {
			a := whole()
			a.Tasks, a.Servers = a.Tasks[:n], a.Servers[:m]
			justMade(t, "New", part.New(a, 7))
			b := newBoth(t, a, 7)
			b.lookFar()
			// Each of them is one, and no other is.
			for task := range maxTasks + 1 {
				want := api.ErrArg
				if task < n {
					want = api.OK
				}
				b.arrives(7, jobOf(task, 1), want)
			}
			for server := range maxServers + 1 {
				want := api.ErrArg
				if server < m {
					want = api.OK
				}
				b.requests(server, 1, want)
			}
			b.begin(7)
			b.lookFar()
			b.stop("New")
		}
	}
	// Nil lists, and empty ones, mean the same.
	justMade(t, "New of empty lists", part.New(conf.Part{Tasks: []conf.Task{}, Servers: []conf.Server{}, Donees: []int{}}, 0))
	justMade(t, "New of nothing", part.New(conf.Part{}, 0))
}

// wrong: partitions whose Rights are not OK, each by one thing.
func wrong() map[string]conf.Part {
	l := map[string]conf.Part{
		"too many tasks":       of(slices.Repeat([]conf.Task{low()}, maxTasks+1)...),
		"far too many tasks":   of(slices.Repeat([]conf.Task{high()}, 1<<16)...),
		"too many servers":     serving(slices.Repeat([]conf.Server{plainServer(1, 9)}, maxServers+1)...),
		"far too many servers": serving(slices.Repeat([]conf.Server{refilled(1, 9)}, 1<<16)...),
		"an act":               {Acts: [3]uint8{3, 0, 0}},
		"the second act":       {Acts: [3]uint8{0, 255, 0}},
		"the last act":         {Acts: [3]uint8{2, 2, 3}},
	}
	for what, task := range map[string]conf.Task{
		"the zero task": {}, "V above D": {Hi: true, T: 20, D: 15, V: 16, Lo: 3, Top: 6}, "V below Lo": {Hi: true, T: 20, D: 15, V: 2, Lo: 3, Top: 6}, "a period": {T: maxPeriod + 1, D: 9, V: 9, Lo: 1, Top: 1},
		"low, with Top above Lo": {T: 20, D: 15, V: 15, Lo: 3, Top: 4}, "low, with V below D": {T: 20, D: 15, V: 14, Lo: 3, Top: 3},
	} {
		l["a task: "+what] = of(task)
		l["the last task: "+what] = of(append(mixed()[:maxTasks-1], task)...)
	}
	for what, s := range map[string]conf.Server{"the zero server": {}, "C above T": plainServer(11, 10), "no C": refilled(0, 10), "a period": refilled(1, maxPeriod+1), "below 0": plainServer(-1, 10)} {
		l["a server: "+what] = serving(s)
		l["the last server: "+what] = conf.Part{Tasks: mixed(), Servers: []conf.Server{plainServer(1, 9), refilled(1, 9), s}}
	}
	return l
}

func TestP2002NewOfOneThatIsNotRight(t *testing.T) {
	for what, a := range wrong() {
		if a.Rights() == api.OK {
			t.Fatalf("%s: is right", what)
		}
		for _, start := range []int{0, 5, maxTick, -1} {
			if part.New(a, start) != nil {
				t.Errorf("New, %s: not nil", what)
			}
		}
	}
	isNone(t, "what New tells of one that is not right", part.New(of(conf.Task{}), 0))
}

func TestP2002NewDoesNotAskForDonees(t *testing.T) {
	// They are right only in a system, and Rights does not ask for them.
	for _, l := range [][]int{{-1}, {7, 7}, slices.Repeat([]int{3}, 100)} {
		a := whole()
		a.Donees = l
		justMade(t, "New with donees", part.New(a, 0))
	}
}

func TestP2002NewAtItsStarts(t *testing.T) {
	for _, a := range []conf.Part{{}, of(mixed()...), serving(plainServer(1, 9)), serving(refilled(1, 9)), whole()} {
		for _, start := range append([]int{maxTick - 2, -maxTick}, numbers...) {
			c := part.New(a, start)
			if start < 0 || start > maxTick {
				if c != nil {
					t.Errorf("New at %d: not nil", start)
				}
				continue
			}
			justMade(t, "New", c)
		}
	}
}

// servedAt: the ticks at which a server of a partition is served, of a work that is more than all of them; at those from begin on.
func servedAt(t *testing.T, a conf.Part, start, begin, ticks int) []int {
	t.Helper()
	b := newBoth(t, a, start)
	b.requests(0, maxWork, api.OK)
	var l []int
	for i := range ticks {
		b.begin(begin + i)
		if who, _, _ := b.run(); who.Server {
			l = append(l, begin+i)
		}
	}
	b.stop("served at")
	return l
}

func TestP2002ThePeriodsOfRefillsBeginAtStart(t *testing.T) {
	for _, start := range []int{0, 1, 9, 10, 13, 1000, 1 << 32, maxTick - 5, maxTick} {
		// All of it is there at once, and behind that at each beginning.
		for ahead := range 10 {
			want := []int{start + ahead, start + ahead + 1, start + 10, start + 11, start + 20, start + 21}
			if ahead == 9 {
				// One of them is used by the first beginning, so one is missing there.
				want = []int{start + 9, start + 10, start + 11, start + 20, start + 21}
			}
			if l := servedAt(t, serving(refilled(2, 10)), start, start+ahead, 30-ahead); !slices.Equal(l, want) {
				t.Errorf("start %d, from %d on: served at %v, not %v", start, start+ahead, l, want)
			}
			// Of another kind each is back behind its own use.
			want = []int{start + ahead, start + ahead + 1, start + ahead + 10, start + ahead + 11}
			if l := servedAt(t, serving(plainServer(2, 10)), start, start+ahead, 18); !slices.Equal(l, want) {
				t.Errorf("start %d, from %d on: served at %v, not %v", start, start+ahead, l, want)
			}
		}
	}
}

package part_test

import (
	"testing"

	"parclose/api"
	"parclose/conf"
	"parclose/tasks"
)

// wrongJobs: those that may not be put, of a task that there is, each by one field.
func wrongJobs(task int) []tasks.Job {
	var l []tasks.Job
	for _, n := range numbers {
		if n < 1 || n > maxWork {
			l = append(l, jobOf(task, n))
		}
		if n != 0 {
			l = append(l, tasks.Job{Task: task, Work: 2, Done: n})
		}
	}
	for _, n := range []int{maxOps + 1, maxOps + 2, 2 * maxOps, 1 << 12} {
		l = append(l, jobOf(task, 2, opsOf(0, n)...))
	}
	return l
}

// rightJobs: those that may, at the edges.
func rightJobs(task int) []tasks.Job {
	l := []tasks.Job{jobOf(task, 1), jobOf(task, 2), jobOf(task, maxWork-1), jobOf(task, maxWork), jobOf(task, 3, []tasks.Op{}...), jobOf(task, 3, opsOf(0, 1)...), jobOf(task, 3, opsOf(0, maxOps-1)...), jobOf(task, 3, opsOf(0, maxOps)...)}
	for _, n := range numbers {
		// Whatever stands there.
		l = append(l, tasks.Job{Task: task, Arrived: n, Work: 2})
	}
	return l
}

// down: one of all that there may be, that is down.
func down(t *testing.T) *both {
	b := newBoth(t, whole(), 0)
	b.halt()
	return b
}

func TestP2002ArriveInOneThatIsDown(t *testing.T) {
	b := down(t)
	for range 2 {
		for task := range maxTasks {
			for _, j := range append(rightJobs(task), wrongJobs(task)...) {
				b.arrives(5, j, api.ErrDown)
			}
		}
		// Whatever else holds.
		for _, n := range numbers {
			b.arrives(5, jobOf(n, 1), api.ErrDown)
			b.arrives(n, jobOf(0, 1), api.ErrDown)
			b.arrives(n, jobOf(n, n), api.ErrDown)
		}
		b.look()
		b.halt()
	}
	// None of these was taken.
	b.restart()
	for task := range maxTasks {
		b.arrives(0, jobOf(task, 2), api.OK)
	}
	b.look()
	b.stop("down")
	// Nor is it asked whether it would be too soon, or dropped, or is there.
	b = newBoth(t, whole(), 0)
	b.arrives(3, jobOf(0, 9), api.OK)
	b.halt()
	b.arrives(4, jobOf(0, 9), api.ErrDown)
	b.arrives(40, jobOf(0, 9), api.ErrDown)
	b.look()
	b.stop("down")
}

func TestP2002ArriveOfATaskThereIsNone(t *testing.T) {
	for n := range maxTasks + 1 {
		b := newBoth(t, of(mixed()[:n]...), 0)
		for _, task := range append([]int{n, n + 1, -1 - n}, numbers...) {
			if task >= 0 && task < n {
				continue
			}
			b.arrives(5, jobOf(task, 1), api.ErrArg)
			b.arrives(5, tasks.Job{Task: task, Arrived: 5, Work: 1, Ops: opsOf(0, 3)}, api.ErrArg)
			b.look()
		}
		b.stop("no such task")
	}
}

func TestP2002ArriveAtEachTick(t *testing.T) {
	for _, now := range numbers {
		for task := range maxTasks {
			b := newBoth(t, whole(), 0)
			want := api.OK
			if now < 0 || now > maxTick {
				want = api.ErrArg
			}
			b.arrives(now, jobOf(task, 2), want)
			b.look()
			b.stop("at each tick")
		}
	}
}

func TestP2002ArriveTooSoon(t *testing.T) {
	for _, x := range []conf.Task{high(), low(), wide(), short(), level(), long()} {
		for _, first := range []int{0, 1, 77, maxTick - maxPeriod - 1} {
			b := newBoth(t, of(low(), x), 0)
			b.arrives(first, jobOf(1, 1), api.OK)
			b.run()
			b.look()
			for _, now := range []int{first, first + 1, first + x.T/2, first + x.T - 1, 0, first - 1} {
				if now >= 0 && now < first+x.T {
					b.arrives(now, jobOf(1, 1), api.ErrSoon)
				}
			}
			// What was refused counts as none, of each error.
			b.arrives(first+x.T-1, jobOf(1, 1), api.ErrSoon)
			b.arrives(first+x.T, jobOf(1, 0), api.ErrArg)
			b.arrives(first+x.T, jobOf(1, 1, opsOf(0, maxOps+1)...), api.ErrArg)
			b.arrives(first+x.T, jobOf(1, 1), api.OK)
			b.arrives(first+x.T, jobOf(1, 1), api.ErrSoon)
			// Of the other one it is apart.
			b.arrives(first, jobOf(0, 1), api.OK)
			b.look()
			b.stop("too soon")
		}
	}
}

// risen: one of these tasks and servers whose task 0, which is high, rose at 0.
func risen(t *testing.T, a conf.Part) *both {
	t.Helper()
	b := newBoth(t, a, 0)
	b.arrives(0, jobOf(0, maxWork), api.OK)
	b.begin(0)
	for range a.Tasks[0].Lo {
		b.run()
	}
	if !b.c.High() {
		t.Fatalf("it did not rise: of %v", a)
	}
	return b
}

func TestP2002ArriveInHighMode(t *testing.T) {
	b := risen(t, whole())
	for now := range 4 {
		for task, x := range mixed() {
			switch {
			case task == 0:
				b.arrives(now, jobOf(0, 1), api.ErrSoon)
			case !x.Hi:
				b.arrives(now, jobOf(task, 1), api.ErrDropped)
			case now == 0:
				b.arrives(now, jobOf(task, 3), api.OK)
			default:
				b.arrives(now, jobOf(task, 3), api.ErrSoon)
			}
		}
		b.look()
	}
	// Behind its fall none is dropped, and what was refused was not taken.
	b.begin(100)
	if b.c.High() {
		t.Error("it is high")
	}
	for task := range maxTasks {
		b.arrives(100, jobOf(task, 1), api.OK)
	}
	b.look()
	b.stop("in high mode")
}

func TestP2002ArriveOfATaskThatHasAJob(t *testing.T) {
	// Nobody begins a tick, so that the job of each is there still.
	for task, x := range mixed() {
		b := newBoth(t, whole(), 0)
		b.arrives(0, jobOf(task, x.Lo+1, opsOf(0, 3)...), api.OK)
		for range 3 {
			b.arrives(x.T, jobOf(task, 1, opsOf(9, 4)...), api.ErrThere)
			b.arrives(2*x.T, jobOf(task, 1), api.ErrThere)
			b.look()
		}
		// It was not taken: T behind the first one is enough, behind the refused one it would not be.
		b.begins(x.T, missed(task))
		b.arrives(x.T, jobOf(task, 1), api.OK)
		b.look()
		b.stop("a task that has a job")
	}
}

func TestP2002ArriveOfJobsThatAreNotRight(t *testing.T) {
	for task := range maxTasks {
		b := newBoth(t, whole(), 0)
		for _, j := range wrongJobs(task) {
			b.arrives(3, j, api.ErrArg)
			b.look()
		}
		// None of these was taken, so that one may come at once, and earlier.
		b.arrives(2, jobOf(task, 2), api.OK)
		b.look()
		b.stop("not right")
	}
}

func TestP2002ArriveOfJobsThatAreRight(t *testing.T) {
	for task := range maxTasks {
		for _, now := range []int{0, 9, maxTick} {
			for _, j := range rightJobs(task) {
				b := newBoth(t, whole(), 0)
				b.arrives(now, j, api.OK)
				l := b.c.Jobs()
				if len(l) != 1 || l[0].Arrived != now || l[0].Task != task || l[0].Work != j.Work || l[0].Done != 0 {
					t.Errorf("Arrive(%d, %v): Jobs: %v", now, j, l)
				}
				b.look()
				b.run()
				b.look()
				b.stop("right")
			}
		}
	}
}

func TestP2002ArriveWhereMoreThanOneHolds(t *testing.T) {
	// Of police ahead of the table: dropped ahead of not right.
	b := risen(t, whole())
	for task, x := range mixed() {
		for _, j := range wrongJobs(task) {
			switch {
			case task == 0:
				b.arrives(1, j, api.ErrSoon)
			case !x.Hi:
				b.arrives(1, j, api.ErrDropped)
			default:
				b.arrives(1, j, api.ErrArg)
			}
		}
		// A tick that is none ahead of dropped, and of too soon.
		b.arrives(-1, jobOf(task, 1), api.ErrArg)
		b.arrives(maxTick+1, jobOf(task, 1), api.ErrArg)
	}
	b.look()
	b.stop("more than one, high")
	for task, x := range mixed() {
		b := newBoth(t, whole(), 0)
		b.arrives(10, jobOf(task, 2), api.OK)
		for _, j := range wrongJobs(task) {
			// Too soon ahead of not right; and not right ahead of that it has one.
			b.arrives(10, j, api.ErrSoon)
			b.arrives(10+x.T, j, api.ErrArg)
		}
		b.arrives(-1, jobOf(task, 2), api.ErrArg)
		// Too soon ahead of that it has one.
		b.arrives(10+x.T-1, jobOf(task, 2), api.ErrSoon)
		b.arrives(10+x.T, jobOf(task, 2), api.ErrThere)
		b.look()
		b.stop("more than one")
	}
	// Dropped ahead of too soon.
	b = newBoth(t, of(high(), low()), 0)
	b.arrives(0, jobOf(1, 1), api.OK)
	b.arrives(0, jobOf(0, 9), api.OK)
	for range 3 {
		b.run()
	}
	b.arrives(1, jobOf(1, 1), api.ErrDropped)
	b.look()
	b.stop("dropped ahead of too soon")
}

func TestP2002RequestInOneThatIsDown(t *testing.T) {
	b := down(t)
	for _, n := range numbers {
		for _, work := range []int{1, 2, n} {
			b.requests(n, work, api.ErrDown)
			b.requests(0, work, api.ErrDown)
		}
	}
	b.look()
	// None of these was numbered.
	b.restart()
	b.requests(0, 1, api.OK)
	b.begins(0)
	b.runs(server(0), served(0, 1))
	b.stop("down")
}

func TestP2002RequestOfAServerThereIsNone(t *testing.T) {
	for n := range maxServers + 1 {
		a := whole()
		a.Servers = a.Servers[:n]
		b := newBoth(t, a, 0)
		for range 2 {
			for _, server := range append([]int{-1, n, n + 1, maxServers}, numbers...) {
				if server >= 0 && server < n {
					continue
				}
				b.requests(server, 1, api.ErrArg)
				b.requests(server, 0, api.ErrArg)
			}
			b.look()
			// Where the others are full as well.
			for server := range n {
				for range maxQueue {
					b.request(server, 1)
				}
			}
		}
		b.stop("no such server")
	}
}

func TestP2002RequestOfEachWork(t *testing.T) {
	for at := range maxServers {
		b := newBoth(t, whole(), 0)
		for _, work := range numbers {
			want := api.OK
			if work < 1 || work > maxWork {
				want = api.ErrArg
			}
			if b.c.Queue(at) == maxQueue {
				b.restart()
			}
			b.requests(at, work, want)
			b.look()
		}
		b.restart()
		for _, work := range []int{1, 2, maxWork - 1, maxWork} {
			b.requests(at, work, api.OK)
		}
		for _, work := range []int{0, -1, maxWork + 1} {
			b.requests(at, work, api.ErrArg)
		}
		if n := b.c.Queue(at); n != 4 {
			t.Errorf("Queue: %d", n)
		}
		b.look()
		b.stop("of each work")
	}
}

func TestP2002RequestsOfOneThatIsFull(t *testing.T) {
	for at := range maxServers {
		b := newBoth(t, whole(), 0)
		for n := range maxQueue {
			b.requests(at, 1, api.OK)
			if got := b.c.Queue(at); got != n+1 {
				t.Errorf("Queue: %d, not %d", got, n+1)
			}
		}
		for range 3 {
			b.requests(at, 1, api.ErrFull)
			// What may not be is told ahead of that.
			b.requests(at, 0, api.ErrArg)
			b.requests(at, maxWork+1, api.ErrArg)
			b.look()
		}
		// The others are not.
		for other := range maxServers {
			if other != at {
				b.requests(other, 1, api.OK)
			}
		}
		// One is served, and one more may come; what was refused had no number.
		b.begins(0)
		for range 2 * maxServers {
			b.run()
		}
		for b.c.Queue(at) < maxQueue {
			b.requests(at, 1, api.OK)
		}
		b.requests(at, 1, api.ErrFull)
		for now := 1; b.c.Queue(at) > 0; now++ {
			b.begin(now)
			b.run()
			b.look()
		}
		b.stop("full")
	}
}

func TestP2002RequestsAreServedAsTheyCame(t *testing.T) {
	// Each of another work, of all servers by turns.
	b := newBoth(t, whole(), 0)
	var want [maxServers]int
	now := 0
	for round := range 20 {
		for at := range maxServers {
			for k := range 1 + (round+at)%4 {
				b.request(at, 1+(round+2*k+at)%3)
			}
		}
		for range 12 {
			b.begin(now)
			_, _, l := b.run()
			for _, e := range l {
				want[e.A]++
				if e.Kind != 6 || e.B != want[e.A] {
					t.Errorf("at %d: %v, not number %d", now, e, want[e.A])
				}
			}
			now++
		}
		b.look()
		b.stop("as they came")
	}
	for at, n := range want {
		if n < 20 {
			t.Errorf("of server %d just %d were served", at, n)
		}
	}
}

func TestP2002RequestInHighMode(t *testing.T) {
	b := risen(t, whole())
	for at := range maxServers {
		for range maxQueue {
			b.requests(at, 2, api.OK)
		}
		b.requests(at, 2, api.ErrFull)
	}
	b.look()
	// They wait, until it falls.
	for now := 1; b.c.High(); now++ {
		b.begin(now)
		if who, _, _ := b.run(); who.Server {
			t.Errorf("server %d runs", who.N)
		}
		b.stop("in high mode")
	}
	b.nobody()
	b.begin(20)
	b.picks(server(2))
	b.look()
	b.stop("in high mode")
}

package part_test

import (
	"testing"

	"parclose/api"
	"parclose/conf"
)

// hasNone holds a Part to that there are no jobs, no requests, and nobody to run, in low mode.
func hasNone(t *testing.T, what string, b *both, up bool) {
	t.Helper()
	if b.c.Up() != up || b.c.High() {
		t.Errorf("%s: up: %v, high: %v", what, b.c.Up(), b.c.High())
	}
	if l := b.c.Jobs(); len(l) != 0 {
		t.Errorf("%s: Jobs: %v", what, l)
	}
	for at := range maxServers {
		if n := b.c.Queue(at); n != 0 {
			t.Errorf("%s: Queue(%d): %d", what, at, n)
		}
	}
	b.nobody()
	b.look()
}

// busied: one of all that there may be, with jobs and requests of each, some of them begun, at 100.
func busied(t *testing.T) *both {
	t.Helper()
	b := newBoth(t, whole(), 0)
	for task := range maxTasks {
		b.arrives(100, jobOf(task, 9, opsOf(task, 4)...), api.OK)
	}
	for at := range maxServers {
		for n := range 2 + at {
			b.requests(at, 2+n, api.OK)
		}
	}
	b.begins(100)
	b.run()
	b.run()
	b.look()
	return b
}

// busiedHigh: the same, that rose.
func busiedHigh(t *testing.T) *both {
	t.Helper()
	b := busied(t)
	for !b.c.High() {
		b.run()
		b.stop("rises")
	}
	b.look()
	return b
}

// stopped holds a Part that is down to what each call answers.
func stopped(t *testing.T, b *both) {
	t.Helper()
	for range 2 {
		hasNone(t, "down", b, false)
		for n := range maxTasks {
			b.arrives(200, jobOf(n, 1), api.ErrDown)
			b.requests(n, 1, api.ErrDown)
		}
		b.begins(200)
		b.runsNobody()
	}
}

// comesIn: jobs of each task, and requests of each server, at a tick at which none is too soon. All that a budget has is there.
func comesIn(t *testing.T, b *both, now int) {
	t.Helper()
	numbers := b.b.asked
	for task := range maxTasks {
		b.arrives(now, jobOf(task, 1), api.OK)
	}
	for at, x := range b.b.a.Servers {
		for range x.C + 1 {
			b.requests(at, 1, api.OK)
		}
	}
	b.look()
	b.begin(now)
	// All that each budget has is there, and no more.
	var ran [maxServers]int
	for range 40 {
		who, _, l := b.run()
		if who.Server {
			ran[who.N]++
			if len(l) != 1 || l[0] != served(who.N, numbers[who.N]+ran[who.N]) {
				t.Errorf("server %d, tick %d: %v", who.N, ran[who.N], l)
			}
		}
	}
	for at, x := range b.b.a.Servers {
		if ran[at] != x.C {
			t.Errorf("server %d: %d ticks", at, ran[at])
		}
	}
	b.look()
}

func TestP2005Stop(t *testing.T) {
	for _, made := range []func(*testing.T) *both{busied, busiedHigh} {
		b := made(t)
		b.halt()
		stopped(t, b)
		// And again.
		b.halt()
		b.halt()
		stopped(t, b)
		b.restart()
		hasNone(t, "up again", b, true)
		comesIn(t, b, 2000)
		b.stop("Stop")
	}
}

func TestP2005RestartOfOneThatIsUp(t *testing.T) {
	for _, made := range []func(*testing.T) *both{busied, busiedHigh} {
		b := made(t)
		b.restart()
		hasNone(t, "restarted", b, true)
		b.restart()
		hasNone(t, "restarted again", b, true)
		b.begins(101)
		b.runsNobody()
		comesIn(t, b, 2000)
		b.stop("Restart")
	}
}

func TestP2005RestartOfOneThatIsNew(t *testing.T) {
	for n := range 3 {
		b := newBoth(t, whole(), 0)
		for range n {
			b.restart()
		}
		hasNone(t, "new", b, true)
		comesIn(t, b, 0)
		b.stop("new")
		b = newBoth(t, whole(), 0)
		for range n + 1 {
			b.halt()
		}
		stopped(t, b)
		b.restart()
		hasNone(t, "new, and stopped", b, true)
		comesIn(t, b, 0)
		b.stop("new, and stopped")
	}
}

func TestP2005NoTasksAreDroppedBehindIt(t *testing.T) {
	for _, halts := range []bool{false, true} {
		b := risen(t, whole())
		b.arrives(1, jobOf(1, 1), api.ErrDropped)
		if halts {
			b.halt()
		}
		b.restart()
		if b.c.High() {
			t.Error("it is high")
		}
		for _, task := range []int{1, 3, 5} {
			b.arrives(1, jobOf(task, 1), api.OK)
		}
		b.look()
		// It rises again, and those are dropped again.
		b.arrives(20, jobOf(0, 9), api.OK)
		for range 9 {
			b.run()
		}
		b.look()
		b.stop("dropped")
	}
}

func TestP2005WhenAJobCameLastIsKept(t *testing.T) {
	// Jobs and requests are gone; that one was accepted is not undone by that.
	for _, halts := range []bool{false, true} {
		for task, x := range mixed() {
			b := newBoth(t, whole(), 0)
			b.arrives(50, jobOf(task, 2), api.OK)
			if halts {
				b.halt()
				b.begins(51)
			}
			b.restart()
			b.arrives(50, jobOf(task, 2), api.ErrSoon)
			b.arrives(50+x.T-1, jobOf(task, 2), api.ErrSoon)
			b.arrives(50+x.T, jobOf(task, 2), api.OK)
			b.look()
			b.stop("came last")
		}
	}
}

func TestP2005BudgetsAreReset(t *testing.T) {
	for _, s := range []conf.Server{plainServer(3, 10), refilled(3, 10)} {
		for ahead := range 4 {
			for _, halts := range []bool{false, true} {
				b := newBoth(t, serving(s), 0)
				b.requests(0, 9, api.OK)
				b.begins(2)
				for range ahead {
					b.run()
				}
				if halts {
					b.halt()
				}
				b.restart()
				// What was live is live no more, and all of it is free.
				b.requests(0, 9, api.OK)
				b.nobody()
				b.begins(4)
				for range 3 {
					b.runs(server(0))
				}
				b.runsNobody()
				// What was used ahead of it is not back besides.
				back := 14
				if s.Refill {
					back = 10
				} else {
					b.begins(12)
					b.runsNobody()
				}
				b.begins(back - 1)
				b.runsNobody()
				b.begins(back)
				for range 3 {
					b.runs(server(0))
				}
				b.runsNobody()
				b.stop("reset")
			}
		}
	}
}

func TestP2005BudgetsAreNotStoppedBehindIt(t *testing.T) {
	for _, s := range []conf.Server{plainServer(3, 10), refilled(3, 10)} {
		a := of(high())
		a.Servers = []conf.Server{s}
		b := risen(t, a)
		b.requests(0, 1, api.OK)
		b.begins(1)
		b.picks(job(0))
		b.restart()
		b.requests(0, 1, api.OK)
		b.begins(2)
		b.runs(server(0), served(0, 2))
		b.runsNobody()
		b.stop("not stopped")
	}
}

func TestP2005ThePeriodsOfRefillsGoOn(t *testing.T) {
	// They begin at start, 3, and every ten ticks, whenever it was restarted.
	for at := 4; at < 30; at++ {
		b := newBoth(t, serving(refilled(1, 10)), 3)
		for now := 3; now < at; now++ {
			b.begins(now)
		}
		b.halt()
		b.begins(at)
		b.restart()
		b.requests(0, 9, api.OK)
		b.begins(at)
		b.runs(server(0))
		next := at + 1
		for (next-3)%10 != 0 {
			b.begins(next)
			b.runsNobody()
			next++
		}
		b.begins(next)
		b.runs(server(0))
		b.runsNobody()
		b.stop("go on")
	}
}

func TestP2005TheNumbersOfRequestsGoOn(t *testing.T) {
	b := newBoth(t, serving(plainServer(2, 2), refilled(2, 2)), 0)
	for n := range 3 {
		b.requests(0, 1, api.OK)
		b.requests(0, 1, api.OK)
		b.requests(1, 1, api.OK)
		b.begins(10 * n)
		b.runs(server(0), served(0, 2*n+1))
		b.restart()
	}
	b.requests(1, 1, api.OK)
	b.requests(0, 1, api.OK)
	b.begins(40)
	b.runs(server(0), served(0, 7))
	b.runs(server(1), served(1, 4))
	b.stop("the numbers")
}

func TestP2005JobsByTasks(t *testing.T) {
	// In whatever order they came.
	for from := range maxTasks {
		for _, step := range []int{1, 5} {
			b := newBoth(t, whole(), 0)
			for i := range maxTasks {
				task := (from + i*step) % maxTasks
				b.arrives(i, jobOf(task, 5+task, opsOf(task, i)...), api.OK)
				b.look()
			}
			if l := b.c.Jobs(); len(l) != maxTasks {
				t.Errorf("Jobs: %v", l)
			}
			for task, j := range b.c.Jobs() {
				if j.Task != task || j.Work != 5+task {
					t.Errorf("Jobs: at %d: %v", task, j)
				}
			}
			for range 12 {
				b.run()
				b.look()
			}
			b.stop("by tasks")
		}
	}
}

func TestP2005QueueOfEachServer(t *testing.T) {
	for n := range maxServers + 1 {
		a := whole()
		a.Servers = a.Servers[:n]
		b := newBoth(t, a, 0)
		for at := range n {
			for range 3 + at {
				b.requests(at, 1, api.OK)
			}
		}
		for _, at := range numbers {
			want := 0
			if at >= 0 && at < n {
				want = 3 + at
			}
			if got := b.c.Queue(at); got != want {
				t.Errorf("of %d: Queue(%d): %d, not %d", n, at, got, want)
			}
		}
		b.begin(0)
		for range 6 {
			b.run()
			b.look()
		}
		b.halt()
		b.look()
		b.stop("Queue")
	}
}

package part_test

import (
	"testing"

	"parclose/api"
	"parclose/conf"
	"parclose/part"
)

func TestP2003BeginOfNothing(t *testing.T) {
	for _, a := range []conf.Part{{}, of(mixed()...), whole()} {
		b := newBoth(t, a, 0)
		for _, now := range numbers {
			b.begins(now)
			b.look()
		}
		b.nobody()
		b.stop("nothing")
	}
}

func TestP2003BeginInOneThatIsDown(t *testing.T) {
	b := newBoth(t, whole(), 0)
	for task := range maxTasks {
		b.arrive(0, jobOf(task, 9))
	}
	b.request(0, 2)
	b.begin(0)
	b.halt()
	for range 2 {
		for _, now := range numbers {
			b.begins(now)
			b.look()
		}
	}
	b.nobody()
	// And behind that it is as if none of these had been.
	b.restart()
	b.requests(0, 9, api.OK)
	b.begins(7)
	b.runs(server(0))
	b.runs(server(0))
	b.runsNobody()
	b.begins(16)
	b.nobody()
	b.begins(17)
	b.picks(server(0))
	b.stop("down")
}

func TestP2003OneThatHasToBeDone(t *testing.T) {
	for _, x := range []conf.Task{high(), low(), wide(), short(), level(), long()} {
		for _, arrived := range []int{0, 1, 50, 1 << 32, maxTick - 1, maxTick} {
			for _, late := range []int{0, 1, 2, 1000} {
				b := newBoth(t, of(low(), x), 0)
				b.arrives(arrived, jobOf(1, 2), api.OK)
				b.begins(arrived)
				b.begins(0)
				b.begins(-maxTick)
				// A tick ahead of it there is time.
				b.begins(arrived + x.D - 1)
				b.picks(job(1))
				b.look()
				b.begins(arrived+x.D+late, missed(1))
				b.nobody()
				b.look()
				// It is gone, once.
				b.begins(arrived + x.D + late)
				b.stop("has to be done")
			}
		}
	}
}

func TestP2003WhatIsDoneIsNotMissed(t *testing.T) {
	b := newBoth(t, of(high(), low()), 0)
	b.arrives(0, jobOf(0, 2), api.OK)
	b.arrives(0, jobOf(1, 1), api.OK)
	for now := range 3 {
		b.begins(now)
		b.run()
	}
	b.begins(14)
	b.begins(40)
	b.look()
	b.stop("done")
	// By D, not by V.
	b = newBoth(t, of(high()), 0)
	b.arrives(0, jobOf(0, 2), api.OK)
	for now := range 15 {
		b.begins(now)
	}
	b.begins(15, missed(0))
	b.stop("by D")
}

func TestP2003SeveralAreMissedByTasks(t *testing.T) {
	b := newBoth(t, whole(), 0)
	for task := maxTasks - 1; task >= 0; task-- {
		b.arrives(100, jobOf(task, 9), api.OK)
	}
	// Their D are 15, 12, 30, 1, 15, 1000.
	b.begins(100)
	b.begins(101, missed(3))
	b.begins(114, missed(1))
	b.begins(115, missed(0), missed(4))
	b.begins(1099, missed(2))
	b.begins(1100, missed(5))
	b.look()
	b.stop("by tasks")
	for task := maxTasks - 1; task >= 0; task-- {
		b.arrives(2000, jobOf(task, 9), api.OK)
	}
	b.begins(3000, missed(0), missed(1), missed(2), missed(3), missed(4), missed(5))
	b.look()
	b.stop("all of them")
}

// fallen holds a Part to what is there behind a fall: no tasks are dropped, and all budgets go on.
func fallen(t *testing.T, b *both, now int) {
	t.Helper()
	if b.c.High() {
		t.Error("it is high")
	}
	for task, x := range b.b.a.Tasks {
		// Behind each task's last one by T.
		b.arrives(now+x.T, jobOf(task, 1), api.OK)
	}
	for at, x := range b.b.a.Servers {
		b.request(at, 1)
		b.begin(now + x.T)
		if who, ok := b.pick(); !ok || b.c.Queue(at) == 0 {
			t.Errorf("behind the fall: Pick: %v, %v; Queue(%d): %d", who, ok, at, b.c.Queue(at))
		}
	}
	b.look()
}

func TestP2003ItSettlesBehindWhatIsMissed(t *testing.T) {
	// Task 0 rose; its job has to be done by 15.
	b := risen(t, whole())
	b.begins(14)
	b.begins(15, missed(0), fell)
	b.begins(15)
	b.begins(16)
	fallen(t, b, 20)
	b.stop("settles")
	// With more than one: Missed of all of them, and Fell, once.
	b = risen(t, whole())
	b.arrives(0, jobOf(2, 9), api.OK)
	b.arrives(0, jobOf(4, 9), api.OK)
	b.begins(30, missed(0), missed(2), missed(4), fell)
	fallen(t, b, 40)
	b.stop("settles, of more than one")
	// One is left, and it does not.
	b = risen(t, whole())
	b.arrives(0, jobOf(2, 9), api.OK)
	b.arrives(0, jobOf(4, 9), api.OK)
	b.begins(29, missed(0), missed(4))
	if !b.c.High() {
		t.Error("it is low")
	}
	b.arrives(29, jobOf(1, 1), api.ErrDropped)
	b.look()
	b.begins(30, missed(2), fell)
	fallen(t, b, 40)
	b.stop("settles, of the last one")
	// In low mode there is nothing to fall from.
	b = newBoth(t, whole(), 0)
	b.arrives(0, jobOf(0, 9), api.OK)
	b.begins(15, missed(0))
	fallen(t, b, 20)
	b.stop("low")
}

func TestP2003BudgetsGoBehindThat(t *testing.T) {
	// It settles, and at the same tick the budgets, which were stopped, go.
	for _, s := range []conf.Server{plainServer(2, 10), refilled(2, 10)} {
		a := of(high(), low())
		a.Servers = []conf.Server{s}
		b := risen(t, a)
		b.requests(0, 3, api.OK)
		for now := range 14 {
			b.begins(now + 1)
			b.picks(job(0))
		}
		b.begins(15, missed(0), fell)
		b.picks(server(0))
		b.runs(server(0))
		b.runs(server(0))
		b.runsNobody()
		b.stop("behind that")
	}
}

func TestP2003BusyWhereThereAreRequests(t *testing.T) {
	for _, s := range []conf.Server{plainServer(2, 10), refilled(2, 10)} {
		// Of each set of servers with requests.
		for set := range 1 << maxServers {
			b := newBoth(t, serving(s, s, s), 0)
			b.begins(0)
			b.nobody()
			for at := range maxServers {
				if set>>at&1 == 1 {
					b.requests(at, 1, api.OK)
				}
			}
			// Not yet: a chunk is live from a Begin on.
			b.nobody()
			b.begins(1)
			for at := range maxServers {
				if set>>at&1 == 1 {
					b.runs(server(at), served(at, 1))
				}
			}
			b.runsNobody()
			// And what they did not use they have still, due a period behind that.
			b.begins(2)
			for at := range maxServers {
				b.requests(at, 1, api.OK)
			}
			b.nobody()
			b.begins(3)
			for at := range maxServers {
				number := 1
				if set>>at&1 == 1 {
					number = 2
				}
				b.runs(server(at), served(at, number))
			}
			b.runsNobody()
			b.look()
			b.stop("busy")
		}
	}
}

func TestP2003BeginAgainAtOneTick(t *testing.T) {
	b := newBoth(t, serving(plainServer(2, 10), refilled(2, 10)), 0)
	for range 3 {
		b.begins(5)
		b.request(0, 1)
		b.request(1, 1)
	}
	b.begins(5)
	for range 4 {
		b.begins(5)
		b.run()
	}
	b.begins(5)
	b.runsNobody()
	// Of each two are used; they are back at 15, and at 10.
	b.begins(9)
	b.nobody()
	b.begins(10)
	b.picks(server(1))
	b.begins(14)
	b.picks(server(1))
	b.begins(15)
	b.picks(server(1))
	b.run()
	b.runs(server(0), served(0, 3))
	b.stop("again")
}

func TestP2003EventsOfBegin(t *testing.T) {
	// Missed ahead of Fell, each with the numbers that it has, and the others zero.
	b := risen(t, of(high(), level()))
	b.arrives(0, jobOf(1, 4), api.OK)
	if l := b.begin(15); len(l) != 3 || l[0] != (part.Event{Kind: part.Missed}) || l[1] != (part.Event{Kind: part.Missed, A: 1}) || l[2] != (part.Event{Kind: part.Fell}) {
		t.Errorf("Begin: %v", l)
	}
	b.look()
	b.stop("events")
}

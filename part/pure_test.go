package part_test

import (
	"slices"
	"sync"
	"testing"

	"parclose/api"
	"parclose/conf"
	"parclose/part"
	"parclose/tasks"
)

// spoil changes a list, and what is behind it.
func spoil[T any](l []T, x T) {
	for i := range l {
		l[i] = x
	}
	grown := append(l, x, x, x)
	for i := range grown {
		grown[i] = x
	}
	grown = l[:cap(l)]
	for i := range grown {
		grown[i] = x
	}
}

// Things that none of the tests' has.
var (
	otherOp    = tasks.Op{Kind: -7, A: -77, B: -777}
	otherEvent = part.Event{Kind: -7, A: -77, B: -777}
	otherJob   = tasks.Job{Task: -7, Arrived: -77, Work: -777, Done: -7777}
)

// roomy: the whole one, with its lists ahead of others, that are behind them.
func roomy() conf.Part {
	a := whole()
	a.Tasks = append(a.Tasks, mixed()...)[:maxTasks]
	a.Servers = append(a.Servers, a.Servers...)[:maxServers]
	a.Donees = append(a.Donees, 7, 8, 9)[:2]
	return a
}

func samePart(a, b conf.Part) bool {
	return slices.Equal(a.Tasks, b.Tasks) && slices.Equal(a.Servers, b.Servers) && slices.Equal(a.Donees, b.Donees) && a.Acts == b.Acts
}

// behindToo: the same, with what is behind its lists.
func behindToo(a conf.Part) conf.Part {
	a.Tasks, a.Servers, a.Donees = a.Tasks[:cap(a.Tasks)], a.Servers[:cap(a.Servers)], a.Donees[:cap(a.Donees)]
	return a
}

// goes: each call of a Part, some ticks long.
func goes(b *both, begin int) {
	for i := range 30 {
		now := begin + i
		for task := range maxTasks {
			b.arrive(now, jobOf(task, 2+(task+i)%6, opsOf(i, 5)...))
		}
		b.request(i%maxServers, 1+i%4)
		b.begin(now)
		b.run()
		b.look()
	}
}

func TestP2001NewDoesNotHoldOnToItsPart(t *testing.T) {
	for _, task := range []conf.Task{{}, {T: 9, D: 9, V: 9, Lo: 9, Top: 9}, {Hi: true, T: 500, D: 400, V: 1, Lo: 1, Top: 300}} {
		for _, s := range []conf.Server{{}, plainServer(9, 9), refilled(1, 900)} {
			a := roomy()
			b := newBoth(t, a, 0)
			if !samePart(behindToo(a), behindToo(roomy())) {
				t.Error("New: what was handed in, or what is behind it, is another one now")
			}
			goes(b, 0)
			spoil(a.Tasks, task)
			spoil(a.Servers, s)
			spoil(a.Donees, 99)
			goes(b, 30)
			b.restart()
			goes(b, 2000)
			b.stop("behind a change of the conf.Part")
		}
	}
}

func TestP2001NothingIsDoneToThePart(t *testing.T) {
	// The other way round: what a Part does is not seen in what it was made of.
	a := roomy()
	b := newBoth(t, a, 0)
	for round := range 6 {
		goes(b, 3000*round)
		b.halt()
		b.restart()
		if !samePart(behindToo(a), behindToo(roomy())) {
			t.Fatal("what was handed in, or what is behind it, is another one now")
		}
	}
	b.stop("nothing is done")
}

func TestP2001ArriveDoesNotHoldOnToItsOps(t *testing.T) {
	for n := range maxOps + 1 {
		room := opsOf(0, maxOps+9)
		was := slices.Clone(room)
		b := newBoth(t, of(long()), 0)
		b.arrives(0, jobOf(0, 80, room[:n]...), api.OK)
		if !slices.Equal(room, was) {
			t.Errorf("Arrive of %d Ops: the list, or what is behind it, is another one now", n)
		}
		b.run()
		b.run()
		spoil(room, otherOp)
		b.look()
		for range maxOps + 2 {
			b.run()
		}
		b.look()
		// Nor is what is told of it, or done to it, seen in the list.
		spoil(b.c.Jobs()[0].Ops, tasks.Op{})
		if !slices.Equal(room, slices.Repeat([]tasks.Op{otherOp}, maxOps+9)) {
			t.Errorf("Arrive of %d Ops: the list is another one behind it", n)
		}
		b.stop("behind a change of the Ops")
	}
}

func TestP2001ArriveThatIsRefusedHoldsOnToNothing(t *testing.T) {
	b := newBoth(t, whole(), 0)
	b.arrives(0, jobOf(0, 5, opsOf(0, 5)...), api.OK)
	for _, j := range append(wrongJobs(1), jobOf(0, 1, opsOf(9, 5)...), jobOf(9, 1, opsOf(9, 5)...)) {
		was := slices.Clone(j.Ops)
		b.arrive(1, j)
		if !slices.Equal(j.Ops, was) {
			t.Errorf("Arrive of %v: the Ops were %v", j, was)
		}
		spoil(j.Ops, otherOp)
		b.look()
	}
	b.stop("refused")
}

func TestP2001WhatJobsTellsSharesNothing(t *testing.T) {
	b := busied(t)
	for range 8 {
		one, two := b.c.Jobs(), b.c.Jobs()
		want := b.b.told()
		for i := range one {
			// Of one answer, too, no two lists share any.
			spoil(one[i].Ops, otherOp)
			for k := range one {
				if k > i && !sameJob(one[k], want[k]) {
					t.Errorf("another job's Ops are %v now", one[k].Ops)
				}
			}
		}
		spoil(one, otherJob)
		if !slices.EqualFunc(two, want, sameJob) {
			t.Errorf("another answer is %v now", two)
		}
		b.look()
		b.run()
		// And what was told stays, whatever comes.
		if !slices.EqualFunc(two, want, sameJob) {
			t.Errorf("what was told is %v now, and was %v", two, want)
		}
		b.stop("what Jobs told")
	}
	b.begin(5000)
	b.halt()
	spoil(b.c.Jobs(), otherJob)
	b.look()
	b.stop("what Jobs told")
}

func TestP2001WhatBeginAndRunTellSharesNothing(t *testing.T) {
	// All that was told, and what it was; half of it is spoilt at once.
	type told struct{ is, was []part.Event }
	var all []told
	for seed := range uint64(40) {
		d := newDrawing(t, 30000+seed)
		for i := range 200 {
			d.call()
			l := d.begin(d.now)
			_, _, m := d.run()
			for _, events := range [][]part.Event{l, m} {
				if i%2 == 0 {
					spoil(events, otherEvent)
				}
				all = append(all, told{events, slices.Clone(events)})
			}
			d.look()
		}
		d.stop("what Begin and Run told")
	}
	for _, x := range all {
		if !slices.Equal(x.is, x.was) {
			t.Fatalf("what was told is %v now, and was %v", x.is, x.was)
		}
	}
}

func TestP2001PartsAreApart(t *testing.T) {
	// Of the same lists, and of the same Ops, too.
	a, ops := whole(), opsOf(0, 20)
	var l []*both
	for n := range maxTasks + 1 {
		l = append(l, newBoth(t, a, n), newBoth(t, a, n), newBoth(t, conf.Part{Tasks: a.Tasks[:n], Servers: a.Servers[:n%(maxServers+1)]}, 0))
	}
	for i, b := range l {
		// Calls of one, and all of them are looked at.
		for task := range maxTasks {
			b.arrive(10*i, jobOf(task, 3+task, ops[:i]...))
		}
		for at := range maxServers {
			b.request(at, 1+i%3)
		}
		b.begin(10 * i)
		for range i {
			b.run()
		}
		if i%5 == 0 {
			b.halt()
		}
		if i%7 == 0 {
			b.restart()
		}
		for _, other := range l {
			other.look()
		}
		b.stop("apart")
	}
}

func TestP2001EachOfManyHasItsOwnPart(t *testing.T) {
	a, ops := whole(), opsOf(0, 9)
	var group sync.WaitGroup
	for seed := range uint64(16) {
		d, b := newDrawing(t, 40000+seed), newBoth(t, a, 0)
		group.Go(func() {
			for i := range 200 {
				d.call()
				d.look()
				b.arrive(i, jobOf(int(seed)%maxTasks, 3, ops...))
				b.begin(i)
				b.run()
			}
			b.look()
		})
	}
	group.Wait()
}

func TestP2001ManyAskOnePart(t *testing.T) {
	// What tells, and changes nothing, may be asked at the same time.
	b := busied(t)
	var group sync.WaitGroup
	for range 8 {
		group.Go(func() {
			for range 50 {
				b.look()
			}
		})
	}
	group.Wait()
}

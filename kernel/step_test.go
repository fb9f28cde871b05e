package kernel_test

import (
	"math/rand/v2"
	"slices"
	"testing"

	"parclose/api"
	"parclose/conf"
	"parclose/gsched"
	"parclose/journal"
	"parclose/kernel"
	"parclose/part"
)

func drawnBy(seed uint64) *rand.Rand { return rand.New(rand.NewPCG(seed, 2503)) }

// reports holds a step to who gets the tick, and to what ran.
func (b *both) reports(choice gsched.Choice, what part.What, l ...kernel.Item) {
	b.t.Helper()
	tick := b.k.Tick()
	if told, err := b.step(l...); err != api.OK || told.Tick != tick || told.Choice != choice || told.What != what {
		b.t.Errorf("at %d: Step: %v, %d, and not %v, %v", tick, told, err, choice, what)
	}
	if n := b.k.Tick(); n != tick+1 {
		b.t.Errorf("Tick: %d, behind %d", n, tick)
	}
}

// nobody: as a Choice tells it.
const nobody = -1

func job(n int) part.What    { return part.What{N: n} }
func server(n int) part.What { return part.What{Server: true, N: n} }

func TestP2503WhoGetsATick(t *testing.T) {
	// Gaps 0, 11, 12 and 19; margins 1, 6 and 13.
	b := newBoth(t, chain(), 0)
	none := part.What{}
	b.reports(gsched.Choice{Kind: gap, Owner: nobody, Runner: nobody}, none)
	b.reports(gsched.Choice{Kind: margin, Owner: 0, Runner: nobody}, none, arrive(0, 0, 1), arrive(2, 0, 4))
	b.reports(gsched.Choice{Kind: own, Owner: 0, Runner: 0}, job(0))
	b.reports(gsched.Choice{Kind: given, Owner: 0, Runner: 2}, job(0), ask(1, 0, 1))
	b.reports(gsched.Choice{Kind: own, Owner: 0, Runner: 0}, job(1), arrive(0, 1, 1))
	// Its one to whom it would give first is ready still.
	b.reports(gsched.Choice{Kind: given, Owner: 0, Runner: 2}, job(0))
	b.reports(gsched.Choice{Kind: margin, Owner: 1, Runner: nobody}, none)
	b.reports(gsched.Choice{Kind: own, Owner: 1, Runner: 1}, server(0))
	b.reports(gsched.Choice{Kind: given, Owner: 1, Runner: 2}, job(0))
	b.reports(gsched.Choice{Kind: given, Owner: 1, Runner: 2}, job(0))
	b.reports(gsched.Choice{Kind: lost, Owner: 1, Runner: nobody}, none)
	b.reports(gsched.Choice{Kind: gap, Owner: nobody, Runner: nobody}, none)
	b.reports(gsched.Choice{Kind: gap, Owner: nobody, Runner: nobody}, none, arrive(1, 0, 2))
	b.reports(gsched.Choice{Kind: margin, Owner: 2, Runner: nobody}, none)
	// 2 gives to nobody.
	b.reports(gsched.Choice{Kind: lost, Owner: 2, Runner: nobody}, none)
	b.reports(gsched.Choice{Kind: own, Owner: 2, Runner: 2}, server(0), ask(2, 0, 1))
	b.sees(2, 0, seen(1, journal.Accept, 0, 4), seen(3, journal.Ran, 0, 0), seen(5, journal.Ran, 0, 0), seen(5, journal.Rose, 0, 0), seen(8, journal.Ran, 0, 1),
		seen(9, journal.Ran, 0, 1), seen(9, journal.Ended, 0, 0), seen(9, journal.Fell, 0, 0), seen(15, journal.Ask, 0, 0), seen(15, journal.Ran, 100, 2), seen(15, journal.Served, 0, 1))
	for p, want := range [][5]int{{2, 2, 0, 1, 0}, {1, 2, 1, 1, 0}, {1, 0, 1, 1, 0}} {
		for kind, n := range want {
			if got := b.k.Spent(kind, p); got != n {
				t.Errorf("Spent(%d, %d): %d, not %d", kind, p, got, n)
			}
		}
		if got := b.k.Got(p); got != []int{0, 0, 4}[p] {
			t.Errorf("Got(%d): %d", p, got)
		}
	}
	b.lookFar()
	b.stop("who gets a tick")
}

func TestP2503WhatComesAtATickIsReadyThen(t *testing.T) {
	b := newBoth(t, pair(), 0)
	b.reports(gsched.Choice{Kind: own, Owner: 0, Runner: 0}, job(1), arrive(0, 1, 1))
	b.reports(gsched.Choice{Kind: own, Owner: 0, Runner: 0}, server(1), ask(0, 1, 1))
	b.reports(gsched.Choice{Kind: given, Owner: 0, Runner: 1}, server(0), ask(1, 0, 1))
	// And what is gone is not.
	b.reports(gsched.Choice{Kind: lost, Owner: 0, Runner: nobody}, part.What{}, arrive(0, 0, 1), ask(0, 0, 1), halt(0))
	b.reports(gsched.Choice{Kind: lost, Owner: 0, Runner: nobody}, part.What{}, start(0))
	b.stop("at a tick")
}

func TestP2503ServersAreToldBehindAHundred(t *testing.T) {
	c := alone(conf.Part{Tasks: []conf.Task{low(50, 50, 1), low(50, 50, 1), low(50, 50, 1)}, Servers: []conf.Server{plainly(1, 30), refilled(1, 20), plainly(1, 10)}})
	b := newBoth(t, c, 0)
	all := items(ask(0, 0, 1), ask(0, 1, 1), ask(0, 2, 1), arrive(0, 0, 1), arrive(0, 1, 1), arrive(0, 2, 1))
	b.step(all...)
	b.steps(5)
	b.sees(0, 6, seen(0, journal.Ran, 102, 0), seen(0, journal.Served, 2, 1), seen(1, journal.Ran, 101, 0), seen(1, journal.Served, 1, 1), seen(2, journal.Ran, 100, 0), seen(2, journal.Served, 0, 1),
		seen(3, journal.Ran, 0, 0), seen(3, journal.Ended, 0, 0), seen(4, journal.Ran, 1, 0), seen(4, journal.Ended, 1, 0), seen(5, journal.Ran, 2, 0), seen(5, journal.Ended, 2, 0))
	b.look()
	b.stop("behind a hundred")
}

// Two ticks of work are done, and the third one ten ticks behind the first chunk's beginning.
func TestP2503AServerGoesOnAPeriodBehindItsChunk(t *testing.T) {
	c := conf.Config{Frame: 10, Windows: []conf.Window{{At: 0, Len: 5}, {At: 5, Len: 5, Part: 1}}, Parts: []conf.Part{{}, {Servers: []conf.Server{plainly(2, 10)}}}}
	b := newBoth(t, c, 0)
	b.step()
	b.step(ask(1, 0, 3))
	b.steps(20)
	b.sees(1, 0, seen(1, journal.Ask, 0, 0), seen(5, journal.Ran, 100, 1), seen(6, journal.Ran, 100, 1), seen(15, journal.Ran, 100, 1), seen(15, journal.Served, 0, 1))
	// Where each tick is its own, that is at just the tenth.
	b = newBoth(t, alone(conf.Part{Servers: []conf.Server{plainly(2, 10)}}), 0)
	b.step()
	b.step(ask(0, 0, 3))
	b.steps(20)
	b.sees(0, 0, seen(1, journal.Ask, 0, 0), seen(1, journal.Ran, 100, 0), seen(2, journal.Ran, 100, 0), seen(11, journal.Ran, 100, 0), seen(11, journal.Served, 0, 1))
	b.lookFar()
	b.stop("a period behind")
}

// logged: the entries of a log behind its first ones, without their ticks.
func logged(b *both, p, behind int) []journal.Entry {
	var l []journal.Entry
	for _, e := range b.k.Log(p)[behind:] {
		l = append(l, seen(0, e.Kind, e.A, e.B))
	}
	return l
}

// eventful: a partition with all ticks, of a high and two low tasks, and a server. acts: what is done about faults.
func eventful(acts [3]uint8) conf.Config {
	c := alone(conf.Part{Tasks: []conf.Task{high(40, 40, 10, 2, 4), low(40, 40, 3), low(40, 30, 3)}, Servers: []conf.Server{plainly(1, 40)}, Acts: acts})
	c.Parts = append(c.Parts, conf.Part{})
	c.Chans = []conf.Channel{{Queue: true, From: 1, To: 0, Size: 2}, {Queue: true, From: 0, To: 1, Size: 2}, {Queue: true, From: 0, To: 1, Size: 9}}
	return c
}

func TestP2503EventsAreLogged(t *testing.T) {
	b := newBoth(t, eventful([3]uint8{}), 0)
	b.step(arrive(0, 0, 3), arrive(0, 1, 3), arrive(0, 2, 3), ask(0, 0, 1))
	b.steps(20)
	if l := logged(b, 0, 4); !slices.Equal(l, []journal.Entry{
		// It rises at its second tick, and the others are dropped; it ends, and the server goes on.
		seen(0, journal.Ran, 0, 0), seen(0, journal.Ran, 0, 0), seen(0, journal.Dropped, 1, 0), seen(0, journal.Dropped, 2, 0), seen(0, journal.Rose, 0, 0),
		seen(0, journal.Ran, 0, 0), seen(0, journal.Ended, 0, 0), seen(0, journal.Fell, 0, 0), seen(0, journal.Ran, 100, 0), seen(0, journal.Served, 0, 1),
	}) {
		t.Errorf("Log: %v", l)
	}
	b.look()
	b.stop("events")
}

func TestP2503TheFaultBehindOver(t *testing.T) {
	for act := range uint8(3) {
		b := newBoth(t, eventful([3]uint8{note, act, note}), 0)
		// Of a low one, while others wait.
		b.step(arrive(0, 2, 9), arrive(0, 1, 3), ask(0, 0, 1))
		b.steps(2)
		want := []journal.Entry{seen(0, journal.Ran, 2, 0), seen(0, journal.Ran, 2, 0), seen(0, journal.Ran, 2, 0), seen(0, journal.Over, 2, 0), seen(0, journal.Fault, overrun, int(act))}
		if l := logged(b, 0, 3); !slices.Equal(l, want) {
			t.Errorf("act %d: Log: %v", act, l)
		}
		if n, m := b.k.Faults(0, overrun), b.k.Faults(0, odd); n != 1 || m != 0 {
			t.Errorf("act %d: Faults: %d, %d", act, n, m)
		}
		if b.k.Up(0) != (act != stop) || (len(b.k.Jobs(0)) == 0) != (act != note) || (b.k.Queue(0, 0) == 0) != (act != note) {
			t.Errorf("act %d: up: %v, Jobs: %v, Queue: %d", act, b.k.Up(0), b.k.Jobs(0), b.k.Queue(0, 0))
		}
		b.steps(20)
		b.lookFar()
		b.stop("Over")
	}
}

func TestP2503TheFaultBehindOverInHighMode(t *testing.T) {
	// Fell is told of the same tick, behind the fault.
	for act := range uint8(3) {
		b := newBoth(t, eventful([3]uint8{note, act, note}), 0)
		b.step(arrive(0, 0, 9))
		b.steps(3)
		want := []journal.Entry{seen(0, journal.Ran, 0, 0), seen(0, journal.Over, 0, 0), seen(0, journal.Fault, overrun, int(act)), seen(0, journal.Fell, 0, 0)}
		if l := logged(b, 0, 5); !slices.Equal(l, want) {
			t.Errorf("act %d: Log: %v", act, l)
		}
		if b.k.High(0) || b.k.Up(0) != (act != stop) {
			t.Errorf("act %d: high: %v, up: %v", act, b.k.High(0), b.k.Up(0))
		}
		b.lookFar()
		b.stop("Over in high mode")
	}
}

// What waits for a partition is gone with it, and what it wrote itself is there.
func TestP2503AFaultClearsWhatWaits(t *testing.T) {
	for act, want := range []journal.Entry{note: seen(0, journal.Op, 3, 7), stop: seen(0, journal.Op, 31, 6), again: seen(0, journal.Op, 31, 6)} {
		c := eventful([3]uint8{note, uint8(act), note})
		c.Parts[1].Tasks = []conf.Task{low(40, 40, 2)}
		c.Frame, c.Windows = 2, []conf.Window{{At: 0, Len: 1, Part: 1}, {At: 1, Len: 1, Part: 0}}
		b := newBoth(t, c, 0)
		// 1 writes; 0 does, and is over.
		b.step(arrive(1, 0, 1, op(2, 0, 7)), arrive(0, 1, 9, op(2, 1, 8), op(2, 2, 9)))
		b.steps(49)
		if b.k.Faults(0, overrun) != 1 {
			t.Fatalf("act %d: Log: %v", act, b.k.Log(0))
		}
		behind0, behind1 := len(b.k.Log(0)), len(b.k.Log(1))
		if act == stop {
			b.step(start(0))
		}
		b.step(arrive(0, 1, 1, op(3, 0, 0)), arrive(1, 0, 2, op(3, 1, 0), op(3, 2, 0)))
		b.steps(6)
		if l := logged(b, 0, behind0); !slices.Contains(l, want) {
			t.Errorf("act %d: Log(0): %v, without %v", act, l, want)
		}
		if l := logged(b, 1, behind1); !slices.Contains(l, seen(0, journal.Op, 3, 8)) || !slices.Contains(l, seen(0, journal.Op, 3, 9)) {
			t.Errorf("act %d: Log(1): %v", act, l)
		}
		b.lookFar()
		b.stop("what waits")
	}
}

// late: a system that does not boot: two partitions, each of two tasks that need all ticks, and a high one.
func late(acts [3]uint8) conf.Config {
	a := conf.Part{Tasks: []conf.Task{low(4, 4, 4), high(9, 4, 2, 1, 4), low(4, 4, 4)}, Acts: acts}
	return conf.Config{Frame: 1, Windows: []conf.Window{{Len: 1}}, Parts: []conf.Part{a, a}}
}

func TestP2503TheFaultBehindMissed(t *testing.T) {
	for act := range uint8(3) {
		b := laid(t, late([3]uint8{act, note, note}), 0)
		b.step(arrive(1, 2, 4), arrive(1, 0, 4), arrive(0, 0, 4), arrive(0, 2, 4))
		b.steps(3)
		behind0, behind1 := len(b.k.Log(0)), len(b.k.Log(1))
		b.steps(1)
		// Each of them is told, with its fault, though it is down by then.
		want := []journal.Entry{seen(0, journal.Missed, 0, 0), seen(0, journal.Fault, missed, int(act)), seen(0, journal.Missed, 2, 0), seen(0, journal.Fault, missed, int(act))}
		if l := logged(b, 1, behind1); !slices.Equal(l, want) {
			t.Errorf("act %d: Log(1): %v, not %v", act, l, want)
		}
		if l := logged(b, 0, behind0); !slices.Equal(l, []journal.Entry{seen(0, journal.Missed, 2, 0), seen(0, journal.Fault, missed, int(act))}) {
			t.Errorf("act %d: Log(0): %v", act, l)
		}
		if n, m := b.k.Faults(0, missed), b.k.Faults(1, missed); n != 1 || m != 2 || b.k.Up(1) != (act != stop) {
			t.Errorf("act %d: Faults: %d, %d; up: %v", act, n, m, b.k.Up(1))
		}
		b.lookFar()
		b.stop("Missed")
	}
}

func TestP2503MissedInHighMode(t *testing.T) {
	for act := range uint8(3) {
		b := laid(t, late([3]uint8{act, act, act}), 0)
		b.step(arrive(0, 1, 4))
		// It rose, and is given no more ticks, as 0 has others to do.
		b.k.Step(halt(1))
		b.b.step(halt(1))
		for range 12 {
			b.step(arrive(0, 0, 4), arrive(0, 1, 3), arrive(0, 2, 4), arrive(1, 1, 4), start(1))
			b.look()
		}
		b.stop("Missed in high mode")
	}
	// Missed, its fault, and then Fell, of one tick.
	c := late([3]uint8{again, note, note})
	c.Frame, c.Windows = 8, []conf.Window{{At: 0, Len: 2, Part: 0}}
	b := laid(t, c, 0)
	b.step(arrive(0, 1, 4))
	b.steps(4)
	if l := logged(b, 0, 0); !slices.Equal(l, []journal.Entry{
		seen(0, journal.Accept, 1, 4), seen(0, journal.Ran, 1, 0), seen(0, journal.Rose, 0, 0), seen(0, journal.Ran, 1, 0),
		seen(0, journal.Missed, 1, 0), seen(0, journal.Fault, missed, again), seen(0, journal.Fell, 0, 0),
	}) {
		t.Errorf("Log: %v", l)
	}
	b.lookFar()
	b.stop("Missed, and Fell")
}

// What is done about a fault at the beginning of a tick is seen by who gets it.
func TestP2503HaltedAsATickBegins(t *testing.T) {
	for act := range uint8(3) {
		c := late([3]uint8{act, note, note})
		c.Parts[0].Tasks = append(c.Parts[0].Tasks, low(40, 40, 2))
		b := laid(t, c, 0)
		b.step(arrive(0, 0, 4), arrive(0, 2, 4), arrive(0, 3, 2))
		b.steps(3)
		want := gsched.Choice{Kind: lost, Owner: 0, Runner: nobody}
		what := part.What{}
		if act == note {
			want, what = gsched.Choice{Kind: own, Owner: 0, Runner: 0}, job(3)
		}
		b.reports(want, what)
		b.lookFar()
		b.stop("as a tick begins")
	}
}

// A log takes MaxStory entries, and the Kernel goes on behind them.
func TestP2503AFullLog(t *testing.T) {
	b := newBoth(t, pair(), 0)
	marks := slices.Repeat(items(mark(1)), maxItems)
	for range maxStory/maxItems - 1 {
		b.step(marks...)
	}
	b.step(marks[1:]...)
	if n := len(b.k.Log(0)); n != maxStory-1 {
		t.Fatalf("%d entries", n)
	}
	// Of the last two it takes the first one.
	b.results(items(mark(7), mark(8)), api.OK, api.OK)
	for p := range 2 {
		if l := b.k.Log(p); len(l) != maxStory || l[maxStory-1] != seen(maxStory/maxItems, journal.Mark, 7, 0) {
			t.Errorf("Log(%d): %d entries", p, len(l))
		}
	}
	b.results(items(arrive(0, 0, 5), ask(0, 0, 1), mark(9)), api.OK, api.OK, api.OK)
	b.steps(20)
	b.look()
	if n := b.k.Spent(own, 0); n == 0 {
		t.Error("it does not go on")
	}
	b.stop("a full log")
}

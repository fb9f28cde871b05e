package kernel_test

import (
	"slices"
	"testing"

	"parclose/api"
	"parclose/conf"
	"parclose/journal"
	"parclose/kernel"
	"parclose/tasks"
)

func TestP2503AtTheHorizon(t *testing.T) {
	for _, c := range systems() {
		b := newBoth(t, c, maxTick-2)
		b.step(mark(1))
		b.step(mark(2))
		if n := b.k.Tick(); n != maxTick {
			t.Fatalf("Tick: %d", n)
		}
		b.lookFar()
		for range 3 {
			b.refused(api.ErrHorizon)
			b.refused(api.ErrHorizon, mark(3))
			b.refused(api.ErrHorizon, arrive(0, 0, 1), halt(0))
			// Of more than MaxItems it is told first.
			b.refused(api.ErrHorizon, make([]kernel.Item, maxItems+1)...)
			b.lookFar()
		}
		b.stop("the horizon")
		b = newBoth(t, c, maxTick)
		b.refused(api.ErrHorizon, mark(3))
		b.lookFar()
		b.stop("the horizon, at once")
	}
}

func TestP2503MoreItemsThanThereMayBe(t *testing.T) {
	for _, c := range systems() {
		b := newBoth(t, c, 6)
		play(b, newDrawing(drawnBy(1), c), 30)
		for _, n := range []int{maxItems + 1, maxItems + 2, 2 * maxItems, 5000} {
			for _, x := range []kernel.Item{mark(7), arrive(0, 0, 1), ask(0, 0, 1), halt(0), start(0), {Kind: 9}} {
				b.refused(api.ErrArg, slices.Repeat(items(x), n)...)
			}
			b.lookFar()
		}
		// And then it goes on.
		play(b, newDrawing(drawnBy(2), c), 30)
		b.stop("more items")
	}
}

func TestP2503JustAsManyItems(t *testing.T) {
	b := newBoth(t, pair(), 0)
	told, err := b.step(slices.Repeat(items(mark(7)), maxItems)...)
	if err != api.OK || len(told.Results) != maxItems {
		t.Errorf("Step: %d results, %d", len(told.Results), err)
	}
	for p := range 2 {
		if l := b.k.Log(p); len(l) != maxItems || l[0] != seen(0, journal.Mark, 7, 0) {
			t.Errorf("Log(%d): %v", p, l)
		}
	}
	told, err = b.step()
	if err != api.OK || len(told.Results) != 0 {
		t.Errorf("Step: %v, %d", told, err)
	}
	b.look()
}

func TestP2503KindsThereAreNot(t *testing.T) {
	for _, n := range numbers {
		if 0 <= n && n <= 4 {
			continue
		}
		b := newBoth(t, pair(), 3)
		for p := -1; p <= 2; p++ {
			b.results(items(kernel.Item{Kind: n, Part: p, A: 1, B: 1, Ops: []tasks.Op{op(1, 0, 0)}}), api.ErrArg)
		}
		for p := range 2 {
			b.sees(p, 0)
		}
		b.lookFar()
		b.stop("a kind there is not")
	}
}

func TestP2503PartitionsThereAreNot(t *testing.T) {
	for _, n := range numbers {
		if 0 <= n && n <= 1 {
			continue
		}
		b := newBoth(t, pair(), 3)
		b.results(items(arrive(n, 0, 1), ask(n, 0, 1), halt(n), start(n), kernel.Item{Kind: 5, Part: n}), api.ErrArg, api.ErrArg, api.ErrArg, api.ErrArg, api.ErrArg)
		for p := range 2 {
			b.sees(p, 0)
		}
		b.lookFar()
		// A Mark is of all of them.
		b.results(items(kernel.Item{Kind: 4, Part: n, A: n, B: 5, Ops: []tasks.Op{op(6, 1, 1)}}), api.OK)
		for p := range 2 {
			b.sees(p, 0, seen(4, journal.Mark, n, 0))
		}
		b.lookFar()
		b.stop("a partition there is not")
	}
}

// What a kind has no use for is not looked at.
func TestP2503WhatAnItemHasBesides(t *testing.T) {
	ops := []tasks.Op{op(6, 1, 1), op(2, 0, 1)}
	b := newBoth(t, pair(), 0)
	b.results(items(
		kernel.Item{Kind: 1, Part: 1, A: 0, B: 2, Ops: ops},
		kernel.Item{Kind: 2, Part: 1, A: 7, B: 8, Ops: ops},
		kernel.Item{Kind: 3, Part: 1, A: -7, B: -8, Ops: ops},
		kernel.Item{Kind: 4, Part: 1, A: -9, B: 8, Ops: ops},
	), api.OK, api.OK, api.OK, api.OK)
	b.sees(0, 0, seen(0, journal.Mark, -9, 0))
	b.sees(1, 0, seen(0, journal.Ask, 0, 0), seen(0, journal.Order, 2, 0), seen(0, journal.Order, 3, 0), seen(0, journal.Mark, -9, 0))
	b.look()
	b.stop("besides")
}

func TestP2503Arrive(t *testing.T) {
	c := pair()
	for _, from := range []int{0, 5, 1 << 40, maxTick - 100} {
		// Where 1 has its ticks behind those of 0, which have nothing to do.
		from -= from % 10
		b := newBoth(t, c, from)
		b.results(items(arrive(1, 0, 6), arrive(1, 1, 2), arrive(1, 1, 2), arrive(1, 2, 1), arrive(1, -1, 1), arrive(0, 1, 0), arrive(0, 1, maxWork+1), arrive(0, 0, -5), arrive(0, 1, 1)),
			api.OK, api.OK, api.ErrSoon, api.ErrArg, api.ErrArg, api.ErrArg, api.ErrArg, api.ErrArg, api.OK)
		b.sees(0, 0, seen(from, journal.Refuse, 1, 1), seen(from, journal.Refuse, 1, 1), seen(from, journal.Refuse, 0, 1), seen(from, journal.Accept, 1, 1),
			seen(from, journal.Ran, 1, 0), seen(from, journal.Ended, 1, 0))
		b.sees(1, 0, seen(from, journal.Accept, 0, 6), seen(from, journal.Accept, 1, 2), seen(from, journal.Refuse, 1, 40), seen(from, journal.Refuse, 2, 1), seen(from, journal.Refuse, -1, 1))
		if l := b.k.Jobs(1); len(l) != 2 || !sameJob(l[0], tasks.Job{Task: 0, Arrived: from, Work: 6}) || !sameJob(l[1], tasks.Job{Task: 1, Arrived: from, Work: 2}) {
			t.Errorf("Jobs: %v", l)
		}
		b.stop("Arrive")
		// It rises, and low ones are dropped, till it is done.
		b.steps(3)
		behind := len(b.k.Log(1))
		b.results(items(arrive(1, 1, 1)), api.ErrDropped)
		b.sees(1, behind, seen(from+4, journal.Refuse, 1, 42), seen(from+4, journal.Ran, 0, 0))
		b.results(items(halt(1), arrive(1, 1, 1), arrive(1, 9, 1)), api.OK, api.ErrDown, api.ErrDown)
		b.sees(1, behind+2, seen(from+5, journal.Order, 2, 0), seen(from+5, journal.Refuse, 1, 41), seen(from+5, journal.Refuse, 9, 41))
		b.lookFar()
		b.stop("Arrive")
	}
}

func TestP2503ArriveWithOps(t *testing.T) {
	b := newBoth(t, pair(), 0)
	// As many as there may be, and one more.
	b.results(items(arrive(1, 0, 3, make([]tasks.Op, maxOps+1)...), arrive(1, 0, 3, make([]tasks.Op, maxOps)...)), api.ErrArg, api.OK)
	b.results(items(arrive(1, 1, 2, op(1, 7, 8), op(9, -1, -2), op(2, 3, 4))), api.OK)
	if l := b.k.Jobs(1); len(l) != 2 || len(l[0].Ops) != maxOps || !slices.Equal(l[1].Ops, []tasks.Op{op(1, 7, 8), op(9, -1, -2), op(2, 3, 4)}) {
		t.Errorf("Jobs: %v", l)
	}
	b.lookFar()
	b.stop("with ops")
}

func TestP2503ArriveWhereAJobIs(t *testing.T) {
	// It may be told of one that is late alone, so that none of what boots tells it: there each is done within T.
	c := alone(conf.Part{Tasks: []conf.Task{low(4, 4, 4), low(4, 4, 4)}})
	b := laid(t, c, 0)
	for range 12 {
		b.step(arrive(0, 0, 4), arrive(0, 1, 4))
	}
	b.lookFar()
	b.stop("where a job is")
}

func TestP2503Ask(t *testing.T) {
	b := newBoth(t, pair(), 10)
	var l []kernel.Item
	var want []api.Errno
	for n := range maxQueue + 2 {
		l = append(l, ask(1, 0, 1+n))
		want = append(want, api.OK)
	}
	want[maxQueue], want[maxQueue+1] = api.ErrFull, api.ErrFull
	b.results(append(l, ask(1, 1, 1), ask(1, -1, 1), ask(1, 0, 0), ask(0, 1, maxWork), ask(0, 1, maxWork+1)), append(want, api.ErrArg, api.ErrArg, api.ErrArg, api.OK, api.ErrArg)...)
	log := slices.Repeat([]journal.Entry{seen(10, journal.Ask, 0, 0)}, maxQueue)
	b.sees(1, 0, append(log, seen(10, journal.Ask, 0, 5), seen(10, journal.Ask, 0, 5), seen(10, journal.Ask, 1, 1), seen(10, journal.Ask, -1, 1), seen(10, journal.Ask, 0, 1))...)
	b.sees(0, 0, seen(10, journal.Ask, 1, 0), seen(10, journal.Ask, 1, 1), seen(10, journal.Ran, 101, 0))
	if b.k.Queue(1, 0) != maxQueue || b.k.Queue(0, 1) != 1 {
		t.Errorf("Queue: %d, %d", b.k.Queue(1, 0), b.k.Queue(0, 1))
	}
	b.results(items(halt(0), ask(0, 1, 1), ask(0, 9, 1)), api.OK, api.ErrDown, api.ErrDown)
	b.sees(0, 3, seen(11, journal.Order, 2, 0), seen(11, journal.Ask, 1, 41), seen(11, journal.Ask, 9, 41))
	b.lookFar()
	b.stop("Ask")
}

// filled: pair, in which 0 has jobs and requests, and messages wait on all channels.
func filled(t *testing.T) *both {
	t.Helper()
	b := newBoth(t, pair(), 0)
	b.results(items(arrive(0, 0, 2, op(2, 0, 5), op(2, 1, 6)), arrive(1, 0, 2, op(2, 2, 7), op(2, 3, 8))), api.OK, api.OK)
	b.steps(9)
	b.results(items(arrive(0, 1, 2), ask(0, 0, 5), ask(0, 1, 5), ask(1, 0, 5)), api.OK, api.OK, api.OK, api.OK)
	b.steps(1)
	b.stop("filled")
	return b
}

// readAll: what 0 and 1 read on their channels, at a later tick.
func readAll(b *both) []journal.Entry {
	b.t.Helper()
	b.steps(80 - b.b.tick%10)
	behind0, behind1 := len(b.k.Log(0)), len(b.k.Log(1))
	b.results(items(arrive(0, 0, 2, op(3, 2, 0), op(3, 3, 0)), arrive(1, 0, 2, op(3, 0, 0), op(3, 1, 0))), api.OK, api.OK)
	b.steps(9)
	var l []journal.Entry
	for p, behind := range []int{behind0, behind1} {
		for _, e := range b.k.Log(p)[behind:] {
			if e.Kind == journal.Op {
				l = append(l, seen(0, e.Kind, e.A, e.B))
			}
		}
	}
	b.stop("readAll")
	return l
}

func TestP2503HaltAndStart(t *testing.T) {
	none := seen(0, journal.Op, 31, 6)
	is := func(n, beside int) []journal.Entry {
		return []journal.Entry{seen(0, journal.Op, 3, n), seen(0, journal.Op, 30, beside)}
	}
	for p := range 2 {
		for _, l := range [][]kernel.Item{{halt(p), start(p)}, {start(p)}, {halt(p), halt(p), start(p), start(p)}} {
			b := filled(t)
			behind := len(b.k.Log(p))
			b.results(l, make([]api.Errno, len(l))...)
			var want []journal.Entry
			for _, x := range l {
				want = append(want, seen(12, journal.Order, x.Kind, 0))
			}
			if got := b.k.Log(p)[behind:]; !slices.Equal(got, want) {
				t.Errorf("Log: %v, not %v", got, want)
			}
			if !b.k.Up(p) || len(b.k.Jobs(p)) != 0 || b.k.Queue(p, 0) != 0 || b.k.Queue(p, 1) != 0 {
				t.Errorf("of %d: up: %v, Jobs: %v, Queue: %d, %d", p, b.k.Up(p), b.k.Jobs(p), b.k.Queue(p, 0), b.k.Queue(p, 1))
			}
			// Channels to p are cleared, and those from p are not.
			wanted := append(slices.Concat([]journal.Entry{none, none}, is(5, 0)), is(6, 0)...)
			if p == 1 {
				wanted = slices.Concat(is(7, 0), is(8, 0), []journal.Entry{none, none})
			}
			if got := readAll(b); !slices.Equal(got, wanted) {
				t.Errorf("behind %v: %v, not %v", l, got, wanted)
			}
			b.lookFar()
			b.stop("Halt and Start")
		}
	}
}

func TestP2503OneThatIsHalted(t *testing.T) {
	b := filled(t)
	b.results(items(halt(0)), api.OK)
	if b.k.Up(0) || !b.k.Up(1) {
		t.Error("0 is up, or 1 is down")
	}
	behind := len(b.k.Log(0))
	for range 40 {
		b.results(items(arrive(0, 0, 1), ask(0, 0, 1), halt(0), mark(3)), api.ErrDown, api.ErrDown, api.OK, api.OK)
		told, _ := b.step()
		if told.Choice.Runner == 0 {
			t.Errorf("0 runs: %v", told)
		}
		b.look()
	}
	for i, e := range b.k.Log(0)[behind:] {
		if want := []int{journal.Refuse, journal.Ask, journal.Order, journal.Mark}[i%4]; e.Kind != want {
			t.Fatalf("Log: %v", e)
		}
	}
	// Up again: when a job was accepted last is known still, and so are the numbers of requests.
	b.results(items(start(0), ask(0, 0, 1)), api.OK, api.OK)
	b.steps(20)
	if l := b.k.Log(0); !slices.ContainsFunc(l, func(e journal.Entry) bool { return e.Kind == journal.Served && e.A == 0 && e.B == 2 }) {
		t.Errorf("Log: %v", l)
	}
	b.lookFar()
	b.stop("one that is halted")
}

// Items are done one by one, in their order.
func TestP2503TheOrderOfItems(t *testing.T) {
	l := items(arrive(0, 0, 1), halt(0), start(0), mark(4), ask(0, 0, 1), arrive(0, 1, 1))
	for seed := range uint64(200) {
		r := drawnBy(seed)
		c := pair()
		b := newBoth(t, c, 0)
		r.Shuffle(len(l), func(i, j int) { l[i], l[j] = l[j], l[i] })
		b.step(l...)
		b.step(l...)
		b.look()
		b.stop("the order of items")
	}
	b := newBoth(t, pair(), 0)
	b.results(items(arrive(0, 1, 2), halt(0), ask(0, 0, 1), mark(4), start(0), arrive(0, 1, 2), ask(0, 0, 1), arrive(0, 0, 2), mark(5)),
		api.OK, api.OK, api.ErrDown, api.OK, api.OK, api.ErrSoon, api.OK, api.OK, api.OK)
	b.sees(0, 0, seen(0, journal.Accept, 1, 2), seen(0, journal.Order, 2, 0), seen(0, journal.Ask, 0, 41), seen(0, journal.Mark, 4, 0), seen(0, journal.Order, 3, 0),
		seen(0, journal.Refuse, 1, 40), seen(0, journal.Ask, 0, 0), seen(0, journal.Accept, 0, 2), seen(0, journal.Mark, 5, 0), seen(0, journal.Ran, 0, 0))
	b.sees(1, 0, seen(0, journal.Mark, 4, 0), seen(0, journal.Mark, 5, 0))
	b.stop("the order of items")
}

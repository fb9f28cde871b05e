package refill_test

import (
	"slices"
	"sync"
	"testing"

	"parclose/refill"
)

// spoil changes a list, and what is behind it.
func spoil(l lives, x refill.Chunk) {
	for i := range l {
		l[i] = x
	}
	grown := append(l, x, x, x)
	for i := range grown {
		grown[i] = x
	}
	grown = l[:cap(l)]
	for i := range grown {
		grown[i] = x
	}
}

func TestP1801WhatIsToldSharesNothing(t *testing.T) {
	b := three(t)
	for range 3 {
		spoil(b.c.Live(), refill.Chunk{At: -7, Left: 77})
		b.look()
	}
	b.stop("told")
	// Nor behind calls that come later: the Budget grows into no list that it told.
	for _, call := range []func(){
		func() { b.use(1) }, func() { b.goTo(30, true) }, func() { b.use(2) }, func() { b.goTo(40, true) }, b.halt, b.resume, func() { b.goTo(41, true) }, b.reset, func() { b.goTo(42, true) }, b.done,
	} {
		live := b.c.Live()
		call()
		spoil(live, refill.Chunk{})
		b.look()
		b.stop("told, and gone on")
	}
}

func TestP1801WhatIsToldStays(t *testing.T) {
	for seed := range uint64(100) {
		d := newDrawing(t, 700+seed)
		for range 40 {
			d.step()
		}
		live := d.c.Live()
		was, behind := slices.Clone(live), slices.Clone(live[:cap(live)])
		for range 40 {
			d.step()
			if !slices.Equal(live, was) {
				t.Fatalf("what was told is %v now, and was %v", live, was)
			}
		}
		if !slices.Equal(live[:cap(live)], behind) {
			t.Fatal("what is behind the list that was told is another thing now")
		}
	}
}

func TestP1801TwoAnswersShareNothing(t *testing.T) {
	b := three(t)
	for range 3 {
		one, two := b.c.Live(), b.c.Live()
		spoil(one, refill.Chunk{At: 1, Left: 1})
		if !slices.Equal(two, b.b.live()) {
			t.Errorf("another answer is %v now", two)
		}
		b.use(1)
	}
}

func TestP1801BudgetsAreApart(t *testing.T) {
	var l []*both
	for _, s := range servers()[:7] {
		l = append(l, newBoth(t, s, 3), newBoth(t, s, 3), three(t))
	}
	for i, b := range l {
		for now := 25; now < 60; now++ {
			// Calls of one, and all of them are looked at.
			b.byNumber((now+i)%6, now)
			for _, other := range l {
				other.look()
			}
		}
		b.reset()
		b.stop("apart")
	}
}

func TestP1801TheSameCallsTellTheSame(t *testing.T) {
	for seed := range uint64(40) {
		a, b := newDrawing(t, 300+seed), newDrawing(t, 300+seed)
		for range 200 {
			a.step()
			// Looks in between change nothing.
			a.look()
			b.step()
		}
		n, ok := a.c.Due()
		if m, is := b.c.Due(); n != m || ok != is || a.c.Free() != b.c.Free() || !slices.Equal(a.c.Live(), b.c.Live()) {
			t.Fatal("the same calls, and other answers")
		}
		b.look()
		b.stop("the same calls")
	}
}

func TestP1801EachOfManyHasItsOwnBudget(t *testing.T) {
	var group sync.WaitGroup
	for seed := range uint64(16) {
		d := newDrawing(t, 500+seed)
		group.Go(func() {
			for range 200 {
				d.step()
				d.look()
			}
		})
	}
	group.Wait()
}

func TestP1801ManyAskOneBudget(t *testing.T) {
	// What tells, and changes nothing, may be asked at the same time.
	b := three(t)
	var group sync.WaitGroup
	for range 8 {
		group.Go(func() {
			for range 50 {
				b.look()
			}
		})
	}
	group.Wait()
}

package chunk_test

import (
	"slices"
	"sync"
	"testing"

	"parclose/chunk"
)

// spoil changes a list, and what is behind it.
func spoil[T any](l []T, x T) {
	for i := range l {
		l[i] = x
	}
	grown := append(l, x, x, x)
	for i := range grown {
		grown[i] = x
	}
	grown = l[:cap(l)]
	for i := range grown {
		grown[i] = x
	}
}

// several: of 6 ticks in 10, of which two are live and three to be back, of chunks of their own.
func several(t *testing.T) *both {
	t.Helper()
	b := newBoth(t, server(6, 10))
	for now := range 3 {
		b.goTo(now, true)
		b.use(1)
		b.done()
	}
	b.goTo(3, true)
	b.use(1)
	b.goTo(10, true)
	b.goTo(11, true)
	b.use(2)
	if len(b.c.Live()) < 2 || len(b.c.Backs()) < 2 {
		t.Fatalf("%v, %v", b.c.Live(), b.c.Backs())
	}
	return b
}

func TestP1701WhatIsToldSharesNothing(t *testing.T) {
	b := several(t)
	for range 3 {
		spoil(b.c.Live(), chunk.Chunk{At: -7, Left: 77, Used: 777})
		spoil(b.c.Backs(), chunk.Back{At: -7, N: 77})
		b.look()
	}
	b.stop("told")
	// Nor behind calls that come later: the Budget grows into no list that it told.
	live, told := b.c.Live(), b.c.Backs()
	b.use(1)
	spoil(live, chunk.Chunk{})
	spoil(told, chunk.Back{})
	b.look()
	b.goTo(12, true)
	b.look()
	b.done()
	b.look()
	b.stop("told, and gone on")
}

func TestP1701WhatIsToldStays(t *testing.T) {
	for seed := range uint64(100) {
		d := newDrawing(t, 700+seed)
		for range 40 {
			d.step()
		}
		live, told := d.c.Live(), d.c.Backs()
		wasLive, wasTold := slices.Clone(live), slices.Clone(told)
		behind, behindTold := slices.Clone(live[:cap(live)]), slices.Clone(told[:cap(told)])
		for range 40 {
			d.step()
			if !slices.Equal(live, wasLive) || !slices.Equal(told, wasTold) {
				t.Fatalf("what was told is %v, %v now, and was %v, %v", live, told, wasLive, wasTold)
			}
		}
		if !slices.Equal(live[:cap(live)], behind) || !slices.Equal(told[:cap(told)], behindTold) {
			t.Fatal("what is behind the lists that were told is another thing now")
		}
	}
}

func TestP1701TwoAnswersShareNothing(t *testing.T) {
	b := several(t)
	for range 2 {
		one, two := b.c.Live(), b.c.Live()
		a, c := b.c.Backs(), b.c.Backs()
		spoil(one, chunk.Chunk{At: 1, Left: 1, Used: 1})
		spoil(a, chunk.Back{At: 1, N: 1})
		if !slices.Equal(two, b.b.live()) || !slices.Equal(c, b.b.toBeBack()) {
			t.Errorf("another answer is %v, %v now", two, c)
		}
		b.use(1)
	}
}

func TestP1701BudgetsAreApart(t *testing.T) {
	var l []*both
	for _, s := range servers()[:7] {
		l = append(l, newBoth(t, s), newBoth(t, s), several(t))
	}
	for i, b := range l {
		for now := 12; now < 40; now++ {
			// Calls of one, and all of them are looked at.
			b.byNumber((now+i)%6, now)
			for _, other := range l {
				other.look()
			}
		}
		b.reset()
		b.stop("apart")
	}
}

func TestP1701TheSameCallsTellTheSame(t *testing.T) {
	for seed := range uint64(40) {
		a, b := newDrawing(t, 300+seed), newDrawing(t, 300+seed)
		for range 200 {
			a.step()
			// Looks in between change nothing.
			a.look()
			b.step()
		}
		n, ok := a.c.Due()
		if m, is := b.c.Due(); n != m || ok != is || a.c.Free() != b.c.Free() || !slices.Equal(a.c.Live(), b.c.Live()) || !slices.Equal(a.c.Backs(), b.c.Backs()) {
			t.Fatal("the same calls, and other answers")
		}
		b.look()
		b.stop("the same calls")
	}
}

func TestP1701EachOfManyHasItsOwnBudget(t *testing.T) {
	var group sync.WaitGroup
	for seed := range uint64(16) {
		d := newDrawing(t, 500+seed)
		group.Go(func() {
			for range 200 {
				d.step()
				d.look()
			}
		})
	}
	group.Wait()
}

func TestP1701ManyAskOneBudget(t *testing.T) {
	// What tells, and changes nothing, may be asked at the same time.
	b := several(t)
	var group sync.WaitGroup
	for range 8 {
		group.Go(func() {
			for range 50 {
				b.look()
			}
		})
	}
	group.Wait()
}

func TestP1703LiveAndBacksInTheirOrder(t *testing.T) {
	b := several(t)
	tells(t, "several", b.c, 0, lives{{At: 10, Left: 1}, {At: 11, Left: 1}}, backs{{At: 12, N: 1}, {At: 13, N: 3}})
	dueAt(t, "several", b.c, 20)
	b.use(1)
	dueAt(t, "the first one is used up", b.c, 21)
	tells(t, "the first one is used up", b.c, 0, lives{{At: 11, Left: 1}}, backs{{At: 12, N: 1}, {At: 13, N: 3}, {At: 20, N: 1}})
	b.goTo(13, false)
	tells(t, "two are back", b.c, 4, lives{{At: 11, Left: 1}}, backs{{At: 20, N: 1}})
	b.goTo(13, true)
	tells(t, "live again", b.c, 0, lives{{At: 11, Left: 1}, {At: 13, Left: 4}}, backs{{At: 20, N: 1}})
	dueAt(t, "live again", b.c, 21)
	b.done()
	dueNever(t, "Done", b.c)
	tells(t, "Done", b.c, 5, nil, backs{{At: 20, N: 1}})
	b.look()
	b.stop("in their order")
}

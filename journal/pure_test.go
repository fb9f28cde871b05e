package journal_test

import (
	"slices"
	"sync"
	"testing"

	"parclose/journal"
)

// odd: what a list is filled with that was told, or handed in.
var odd = journal.Entry{Tick: -77, Kind: 3, A: -78, B: -79}

// spoil fills a list, and the room behind it.
func spoil(l []journal.Entry) {
	l = l[:cap(l)]
	for i := range l {
		l[i] = odd
	}
}

func TestP2302LogsAreApart(t *testing.T) {
	var l []*both
	for room := range 12 {
		l = append(l, newBoth(t, room), newBoth(t, room))
	}
	for n := range 6 {
		for i, b := range l {
			b.add(row(100*i+10*n, i%4)...)
			for _, other := range l {
				other.look()
			}
		}
	}
	l[0].stop("apart")
}

func TestP2301WhatIsToldSharesNothing(t *testing.T) {
	for _, room := range []int{1, 3, 8, 20, 100} {
		b := newBoth(t, room)
		for n := range 25 {
			b.add(row(10*n, n%4)...)
			all, again := b.l.All(), b.l.All()
			of, ofAgain := b.l.Of(3, 5, 8), b.l.Of(3, 5, 8)
			was, wasOf := slices.Clone(again), slices.Clone(ofAgain)
			spoil(all)
			spoil(of)
			if !alike(again, was) || !alike(ofAgain, wasOf) {
				t.Fatalf("one answer is seen by another one")
			}
			b.look()
			// Grown in their own room, they don't reach into the Log either.
			_ = append(again, odd, odd, odd)
			_ = append(ofAgain, odd, odd)
			b.look()
			// And what comes later is not seen by them.
			b.add(entry(n), entry(n+1))
			b.look()
			if !alike(again, was) || !alike(ofAgain, wasOf) {
				t.Fatalf("a later Add is seen by an answer")
			}
			b.stop("what is told")
		}
	}
}

func TestP2301WhatIsHandedInIsNotKept(t *testing.T) {
	for _, room := range []int{1, 4, 10, 50} {
		for _, count := range []int{1, 2, 5, 10, 30} {
			for _, more := range []int{0, 1, 7, 100} {
				b := newBoth(t, room)
				handed := append(make([]journal.Entry, 0, count+more), row(0, count)...)
				b.add(handed...)
				b.look()
				spoil(handed)
				b.look()
				// Another Add must not write into what was handed in, nor behind it.
				b.add(row(500, 12)...)
				b.look()
				for _, e := range handed[:cap(handed)] {
					if e != odd {
						t.Fatalf("a later Add is seen in what was handed in: %v", e)
					}
				}
				b.stop("what is handed in")
			}
		}
	}
}

func TestP2301AListWithRoomThatIsGrown(t *testing.T) {
	b := newBoth(t, 40)
	handed := append(make([]journal.Entry, 0, 64), row(0, 6)...)
	b.add(handed...)
	grown := append(handed, odd, odd, odd)
	b.look()
	b.add(entry(8), entry(9))
	b.look()
	if !alike(grown, append(row(0, 6), odd, odd, odd)) {
		t.Errorf("a later Add is seen behind what was handed in: %v", grown)
	}
	b.add(grown[2:4]...)
	b.look()
	b.stop("grown")
}

func TestP2301WhatIsHandedInIsNotChanged(t *testing.T) {
	b := newBoth(t, 25)
	entries := append(make([]journal.Entry, 0, 30), row(0, 20)...)
	spoil(entries[20:])
	was := slices.Clone(entries[:30])
	kinds := append(make([]int, 0, 10), 9, 3, 14, 3, -5, 1)
	copy(kinds[6:10], []int{4, 2, 1, 0})
	wereKinds := slices.Clone(kinds[:10])
	for range 3 {
		b.add(entries...)
		b.of(kinds...)
		journal.Same(entries, entries[:19])
		journal.Same(entries, slices.Clone(entries))
		if !alike(entries[:30], was) {
			t.Errorf("the entries handed in: %v", entries)
		}
		if !slices.Equal(kinds[:10], wereKinds) {
			t.Errorf("the kinds handed in: %v", kinds[:10])
		}
	}
	b.look()
	// Kinds that change behind the call are not seen.
	told := b.l.Of(kinds...)
	want := slices.Clone(told)
	for i := range kinds {
		kinds[i] = 7
	}
	if !alike(told, want) {
		t.Errorf("Of, behind a change of its kinds: %v", told)
	}
	b.stop("what is handed in")
}

// A Log may be handed what it told, and its own entries go on twice then.
func TestP2301WhatWasToldMayBeAdded(t *testing.T) {
	b := newBoth(t, 100)
	b.add(row(0, 3)...)
	for range 6 {
		b.add(b.l.All()...)
		b.look()
		b.add(b.l.Of(1, 2)...)
		b.look()
	}
	b.stop("what was told")
}

func TestP2301TheSameCallsTellTheSame(t *testing.T) {
	for seed := range uint64(20) {
		one, other := newDrawing(t, 50, 400+seed), newDrawing(t, 50, 400+seed)
		for range 60 {
			one.call()
			other.call()
			if a, b := one.l.All(), other.l.All(); !journal.Same(a, b) {
				t.Fatalf("All: %v and %v", a, b)
			}
		}
	}
}

func TestP2301EachOfManyHasItsOwnLog(t *testing.T) {
	var group sync.WaitGroup
	for i := range 16 {
		d := newDrawing(t, 10*i, 7000+uint64(i))
		group.Go(func() {
			for range 100 {
				d.call()
				d.look()
			}
		})
	}
	group.Wait()
}

func TestP2301ManyAskOneLog(t *testing.T) {
	// What tells, and changes nothing, may be asked at the same time.
	b := newBoth(t, 30)
	b.add(row(0, 40)...)
	var group sync.WaitGroup
	for range 8 {
		group.Go(func() {
			for range 20 {
				b.lookFar()
				if !journal.Same(b.l.All(), row(0, 30)) || journal.Word(14) != "mark" {
					t.Errorf("Same, Word")
				}
			}
		})
	}
	group.Wait()
}

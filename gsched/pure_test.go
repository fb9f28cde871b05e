package gsched_test

import (
	"slices"
	"sync"
	"testing"

	"parclose/conf"
	"parclose/gsched"
)

// odd: what a list is filled with that was told, or handed in.
const odd = -77

// spoil fills a list, and the room behind it.
func spoil(l []int) {
	l = l[:cap(l)]
	for i := range l {
		l[i] = odd
	}
}

// roomy: the same system, with room behind each list, which is filled.
func roomy(c conf.Config) conf.Config {
	c = conf.Clone(c)
	c.Windows = append(c.Windows, conf.Window{At: odd}, conf.Window{Len: odd})[:len(c.Windows)]
	c.Chans = append(c.Chans, conf.Channel{From: odd}, conf.Channel{To: odd})[:len(c.Chans)]
	for p, a := range c.Parts {
		c.Parts[p].Donees = append(a.Donees, odd, odd, odd)[:len(a.Donees)]
	}
	c.Parts = append(c.Parts, conf.Part{Donees: []int{odd}})[:len(c.Parts)]
	return c
}

// ruin changes all of a system, and the room behind its lists.
func ruin(c conf.Config) {
	windows := c.Windows[:cap(c.Windows)]
	for i := range windows {
		windows[i] = conf.Window{At: i, Len: 1, Part: 5 - i%6}
	}
	channels := c.Chans[:cap(c.Chans)]
	for i := range channels {
		channels[i] = conf.Channel{}
	}
	for _, a := range c.Parts {
		spoil(a.Donees)
	}
	parts := c.Parts[:cap(c.Parts)]
	for p := range parts {
		parts[p] = conf.Part{Donees: []int{p, p}}
	}
}

func TestP2401WhatIsChangedOfTheSystemIsNotSeen(t *testing.T) {
	for _, c := range systems() {
		handed := roomy(c)
		b := newBoth(t, handed)
		b.look()
		ruin(handed)
		b.lookFar()
		b.stop("a system that was changed")
	}
}

func TestP2401TheSystemIsNotChanged(t *testing.T) {
	for _, c := range systems() {
		handed := roomy(c)
		was := conf.Clone(handed)
		b := newBoth(t, handed)
		b.lookFar()
		for p := range c.Parts {
			_ = append(b.s.Donees(p), odd+1)
			spoil(b.s.Donees(p))
		}
		if !conf.Same(handed, was) {
			t.Errorf("what was handed in: %v, not %v", handed, was)
		}
		for p, a := range handed.Parts {
			for _, n := range a.Donees[len(a.Donees):min(len(a.Donees)+3, cap(a.Donees))] {
				if n != odd {
					t.Errorf("the room behind the donees of %d: %d", p, n)
				}
			}
		}
		b.stop("the system that was handed in")
	}
}

func TestP2401PartitionsThatShareAList(t *testing.T) {
	list := []int{2, 3, 0}
	c := conf.Config{Frame: 8, Windows: []conf.Window{{At: 0, Len: 4, Part: 0}, {At: 4, Len: 4, Part: 1}}, Parts: []conf.Part{{Donees: list[:2]}, {Donees: list}, {}, {}}}
	b := newBoth(t, c)
	spoil(b.s.Donees(0))
	b.lookFar()
	spoil(list)
	b.lookFar()
	b.stop("a list of two partitions")
}

func TestP2401WhatDoneesToldSharesNothing(t *testing.T) {
	for _, c := range systems() {
		for p := range c.Parts {
			b := newBoth(t, roomy(c))
			one, other := b.s.Donees(p), b.s.Donees(p)
			was := slices.Clone(other)
			spoil(one)
			if !slices.Equal(other, was) {
				t.Errorf("one answer is seen by another one: %v", other)
			}
			b.look()
			// Grown in its own room it doesn't reach into the Sched either.
			_ = append(other, odd, odd, odd, odd)
			_ = append(other[:0], odd, odd, odd, odd)
			b.lookFar()
			b.stop("what was told")
		}
	}
}

func TestP2401WhatWasToldStays(t *testing.T) {
	for _, c := range systems() {
		handed := roomy(c)
		b := newBoth(t, handed)
		var told [][]int
		for p := range c.Parts {
			told = append(told, b.s.Donees(p))
		}
		ruin(handed)
		for p := range c.Parts {
			spoil(b.s.Donees(p))
		}
		for p, l := range told {
			if !slices.Equal(l, c.Parts[p].Donees) {
				t.Errorf("what was told of %d: %v, not %v", p, l, c.Parts[p].Donees)
			}
		}
	}
}

func TestP2401WhoIsReadyIsNotChangedAndNotKept(t *testing.T) {
	b := newBoth(t, example())
	for _, row := range rows(5) {
		ready := append(slices.Clone(row), true, false, true)
		was := slices.Clone(ready)
		for tick := range 20 {
			b.at(tick, ready[:len(row)]...)
			if !slices.Equal(ready, was) {
				t.Fatalf("At(%d) of %v: they are %v", tick, was, ready)
			}
			// The room behind the row doesn't count, and other ones later on are not as these.
			told := b.s.At(tick, ready[:len(row)]...)
			for i := range ready {
				ready[i] = !ready[i]
			}
			b.at(tick, ready[:len(row)]...)
			b.at(tick)
			copy(ready, was)
			if again := b.s.At(tick, ready[:len(row)]...); again != told {
				t.Fatalf("At(%d) of %v: %v, then %v", tick, row, told, again)
			}
		}
	}
}

func TestP2401TheSameCallsTellTheSame(t *testing.T) {
	// In any order, and whatever else was called in between.
	d := newDrawing(t, 11)
	var told []gsched.Choice
	for tick := range 500 {
		told = append(told, d.s.At(tick, tick%2 == 0, tick%3 == 0))
	}
	for range 3 {
		for _, tick := range d.r.Perm(500) {
			d.call()
			if got := d.s.At(tick, tick%2 == 0, tick%3 == 0); got != told[tick] {
				t.Fatalf("At(%d): %v, then %v", tick, told[tick], got)
			}
		}
	}
}

func TestP2401ManyAskOneSched(t *testing.T) {
	// It tells, and changes nothing, so that it may be asked at the same time.
	b := newBoth(t, full())
	var group sync.WaitGroup
	for range 8 {
		group.Go(func() {
			b.look()
			for p := range 6 {
				spoil(b.s.Donees(p))
			}
			b.look()
		})
	}
	group.Wait()
}

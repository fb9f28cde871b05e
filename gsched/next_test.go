package gsched_test

import (
	"math"
	"slices"
	"testing"

	"parclose/conf"
	"parclose/frame"
	"parclose/gsched"
)

func TestP2402Donees(t *testing.T) {
	s := gsched.New(example())
	for p, want := range [][]int{{3, 1, 2}, {}, {0}, {1, 0}, {}, {}, {}} {
		if l := s.Donees(p); !slices.Equal(l, want) {
			t.Errorf("Donees(%d): %v, not %v", p, l, want)
		}
	}
	for _, p := range []int{-1, -2, -4, math.MinInt, math.MinInt + 3, 4, 5, 6, 7, 256, 1 << 32, 1<<32 + 2, 1 << 62, math.MaxInt} {
		if l := s.Donees(p); len(l) != 0 {
			t.Errorf("Donees(%d): %v", p, l)
		}
	}
}

func TestP2402DoneesOfEachSystem(t *testing.T) {
	for _, c := range systems() {
		b := newBoth(t, c)
		for range 2 {
			for _, p := range partitions {
				b.donees(p)
			}
		}
		b.stop("donees")
	}
}

func TestP2402Next(t *testing.T) {
	s := gsched.New(example())
	for _, r := range []struct {
		p, tick, want int
		ok            bool
	}{
		{0, 0, 5, true}, {0, 4, 5, true}, {0, 5, 5, true}, {0, 6, 6, true}, {0, 7, 7, true}, {0, 8, 19, true}, {0, 18, 19, true}, {0, 19, 19, true}, {0, 20, 25, true},
		{1, 0, 10, true}, {1, 10, 10, true}, {1, 11, 11, true}, {1, 12, 30, true}, {1, 19, 30, true}, {1, 20, 30, true},
		{0, -1, -1, true}, {0, -2, -1, true}, {0, -12, -1, true}, {0, -13, -13, true}, {1, -1, 10, true}, {1, -20, -10, true}, {1, -9, -9, true}, {1, -8, 10, true},
		{0, math.MinInt, math.MinInt + 7, true}, {1, math.MinInt, math.MinInt + 18, true},
		{0, 1<<62 - 1, 1<<62 + 1, true}, {0, 1 << 62, 1<<62 + 1, true}, {0, 1<<62 + 2, 1<<62 + 1, true}, {0, math.MaxInt, 1<<62 + 1, true}, {1, math.MaxInt, 1<<62 + 6, true},
		// Margin takes the whole window of 2; 3 has none.
		{2, 0, 0, false}, {2, 14, 0, false}, {2, -1, 0, false}, {2, math.MaxInt, 0, false},
		{3, 0, 0, false}, {3, 5, 0, false}, {3, math.MinInt, 0, false},
		{-1, 0, 0, false}, {-1, 5, 0, false}, {-1, 12, 0, false}, {4, 5, 0, false}, {6, 5, 0, false}, {1 << 32, 5, 0, false}, {math.MinInt, 5, 0, false}, {math.MaxInt, 5, 0, false},
	} {
		if n, ok := s.Next(r.p, r.tick); n != r.want || ok != r.ok {
			t.Errorf("Next(%d, %d): %d, %v, not %d, %v", r.p, r.tick, n, ok, r.want, r.ok)
		}
	}
}

func TestP2402NextIsAsOfTheTable(t *testing.T) {
	for _, c := range systems() {
		b := newBoth(t, c)
		table := frame.New(c.Frame, c.Margin, c.Windows...)
		l := slices.Clone(ticks)
		for tick := -2 * c.Frame; tick < 3*c.Frame; tick++ {
			l = append(l, tick)
		}
		for _, tick := range l {
			for _, p := range partitions {
				want, is := table.Next(p, tick)
				if n, ok := b.s.Next(p, tick); n != want || ok != is {
					t.Errorf("Next(%d, %d): %d, %v, and of the table %d, %v", p, tick, n, ok, want, is)
				}
				b.next(p, tick)
			}
		}
		b.stop("next")
	}
}

// What Next tells is a tick that is just its own, if it is ready.
func TestP2402NextIsAnOpenTick(t *testing.T) {
	for _, c := range systems() {
		b := newBoth(t, c)
		for p := range c.Parts {
			ready := make([]bool, p+1)
			ready[p] = true
			for tick := -c.Frame; tick < 2*c.Frame; tick++ {
				n, ok := b.s.Next(p, tick)
				if got := b.s.At(n, ready...); ok && got != (gsched.Choice{Kind: own, Owner: p, Runner: p}) {
					t.Errorf("Next(%d, %d) is %d, which is %v", p, tick, n, got)
				}
			}
		}
		b.stop("next")
	}
}

func TestP2402SchedsAreApart(t *testing.T) {
	var l []*both
	for _, c := range systems()[:20] {
		l = append(l, newBoth(t, c), newBoth(t, c))
	}
	for range 2 {
		for _, b := range l {
			b.look()
		}
	}
	for _, b := range slices.Backward(l) {
		b.lookFar()
		b.stop("apart")
	}
}

func TestP2402MarginsOfAllLengths(t *testing.T) {
	for long := 1; long <= 10; long++ {
		for margin := range 9 {
			b := newBoth(t, conf.Config{Frame: 12, Margin: margin, Windows: []conf.Window{{At: 1, Len: long, Part: 1}}, Parts: []conf.Part{{}, {Donees: []int{0}}}})
			for _, ready := range rows(3) {
				for tick := -12; tick < 24; tick++ {
					b.at(tick, ready...)
				}
			}
			b.lookFar()
			b.stop("a margin")
		}
	}
}

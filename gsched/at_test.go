package gsched_test

import (
	"math"
	"testing"

	"parclose/conf"
	"parclose/frame"
	"parclose/gsched"
	"parclose/ledger"
)

func TestP2402TheNumbersOfItsKinds(t *testing.T) {
	if ledger.Own != own || ledger.Given != given || ledger.Lost != lost || ledger.Margin != margin || ledger.Gap != gap {
		t.Error("kinds are of other numbers than the document says")
	}
}

func TestP2402TheExample(t *testing.T) {
	s := gsched.New(conf.Config{Frame: 1, Windows: []conf.Window{{At: 0, Len: 1}}, Parts: []conf.Part{{Donees: []int{2, 1}}, {}, {}}})
	if got := s.At(0, false, true, true); got != (gsched.Choice{Kind: 1, Owner: 0, Runner: 2}) {
		t.Errorf("both donees are ready: %v", got)
	}
	if got := s.At(0, false, true); got != (gsched.Choice{Kind: 1, Owner: 0, Runner: 1}) {
		t.Errorf("the second donee is ready: %v", got)
	}
	if got := s.At(0, true, true, true); got != (gsched.Choice{Kind: 0, Owner: 0, Runner: 0}) {
		t.Errorf("the owner is ready: %v", got)
	}
	if got := s.At(0); got != (gsched.Choice{Kind: 2, Owner: 0, Runner: -1}) {
		t.Errorf("nobody is ready: %v", got)
	}
}

// chosen: a tick of the example, who is ready, and what is made of it.
type chosen struct {
	tick  int
	ready []bool
	want  gsched.Choice
}

func holds(t *testing.T, l []chosen) {
	t.Helper()
	s := gsched.New(example())
	for _, r := range l {
		if got := s.At(r.tick, r.ready...); got != r.want {
			t.Errorf("At(%d, %v): %v, not %v", r.tick, r.ready, got, r.want)
		}
	}
}

func TestP2402GapsAndMargins(t *testing.T) {
	all := []bool{true, true, true, true}
	for _, ready := range [][]bool{nil, {}, all, {true}, {false, true}, make([]bool, 4), make([]bool, 100)} {
		var l []chosen
		for _, tick := range []int{0, 1, 2, 12, 13, 16, -20, -18, -8, -4, 20, 22, 32, 36, math.MinInt, math.MinInt + 1, 1<<62 - 2} {
			l = append(l, chosen{tick, ready, gsched.Choice{Kind: gap, Owner: -1, Runner: -1}})
		}
		for _, tick := range []int{3, 4, 17, 18, -17, -16, -3, -2, 23, 24, 37, 38, 1 << 62, math.MinInt + 5} {
			l = append(l, chosen{tick, ready, gsched.Choice{Kind: margin, Owner: 0, Runner: -1}})
		}
		for _, tick := range []int{8, 9, -12, -11, 28, 29} {
			l = append(l, chosen{tick, ready, gsched.Choice{Kind: margin, Owner: 1, Runner: -1}})
		}
		for _, tick := range []int{14, 15, -6, -5, 34, 35, math.MinInt + 2, math.MinInt + 3} {
			l = append(l, chosen{tick, ready, gsched.Choice{Kind: margin, Owner: 2, Runner: -1}})
		}
		holds(t, l)
	}
}

func TestP2402OpenTicks(t *testing.T) {
	// The first, the middle and the last tick that is open in a window, the last one of the frame, and such of other frames.
	for _, tick := range []int{5, 6, 7, 19, -15, -14, -13, -1, 25, 27, 39, 1<<62 + 1, math.MaxInt, math.MaxInt - 2, math.MinInt + 7} {
		holds(t, []chosen{
			{tick, nil, gsched.Choice{Kind: lost, Owner: 0, Runner: -1}},
			{tick, []bool{}, gsched.Choice{Kind: lost, Owner: 0, Runner: -1}},
			{tick, []bool{false}, gsched.Choice{Kind: lost, Owner: 0, Runner: -1}},
			{tick, make([]bool, 4), gsched.Choice{Kind: lost, Owner: 0, Runner: -1}},
			{tick, make([]bool, 100), gsched.Choice{Kind: lost, Owner: 0, Runner: -1}},
			{tick, []bool{true}, gsched.Choice{Kind: own, Owner: 0, Runner: 0}},
			{tick, []bool{true, true, true, true}, gsched.Choice{Kind: own, Owner: 0, Runner: 0}},
			{tick, []bool{true, false, false, false, false, false, false}, gsched.Choice{Kind: own, Owner: 0, Runner: 0}},
			// Its donees are 3, 1 and 2, in this order.
			{tick, []bool{false, true, true, true}, gsched.Choice{Kind: given, Owner: 0, Runner: 3}},
			{tick, []bool{false, false, false, true}, gsched.Choice{Kind: given, Owner: 0, Runner: 3}},
			{tick, []bool{false, true, true, false}, gsched.Choice{Kind: given, Owner: 0, Runner: 1}},
			{tick, []bool{false, true, true}, gsched.Choice{Kind: given, Owner: 0, Runner: 1}},
			{tick, []bool{false, true}, gsched.Choice{Kind: given, Owner: 0, Runner: 1}},
			{tick, []bool{false, false, true}, gsched.Choice{Kind: given, Owner: 0, Runner: 2}},
			{tick, []bool{false, false, true, false}, gsched.Choice{Kind: given, Owner: 0, Runner: 2}},
			// Numbers that are no partitions' don't count.
			{tick, []bool{false, false, false, false, true}, gsched.Choice{Kind: lost, Owner: 0, Runner: -1}},
			{tick, []bool{false, false, false, false, true, true, true, true}, gsched.Choice{Kind: lost, Owner: 0, Runner: -1}},
			{tick, []bool{false, false, true, false, true}, gsched.Choice{Kind: given, Owner: 0, Runner: 2}},
		})
	}
}

func TestP2402DoneesOfNone(t *testing.T) {
	for _, tick := range []int{10, 11, -10, -9, 30, 31} {
		holds(t, []chosen{
			{tick, nil, gsched.Choice{Kind: lost, Owner: 1, Runner: -1}},
			{tick, []bool{true}, gsched.Choice{Kind: lost, Owner: 1, Runner: -1}},
			{tick, []bool{true, false, true, true}, gsched.Choice{Kind: lost, Owner: 1, Runner: -1}},
			{tick, []bool{true, false, true, true, true, true, true}, gsched.Choice{Kind: lost, Owner: 1, Runner: -1}},
			{tick, []bool{false, true}, gsched.Choice{Kind: own, Owner: 1, Runner: 1}},
			{tick, []bool{true, true, true, true}, gsched.Choice{Kind: own, Owner: 1, Runner: 1}},
		})
	}
}

// A donee's own donees get nothing of it: a tick goes along one list alone.
func TestP2402ATickIsGivenOnce(t *testing.T) {
	s := gsched.New(conf.Config{Frame: 4, Windows: []conf.Window{{At: 0, Len: 4}}, Parts: []conf.Part{{Donees: []int{1}}, {Donees: []int{2}}, {Donees: []int{0}}}})
	if got := s.At(2, false, false, true); got != (gsched.Choice{Kind: lost, Owner: 0, Runner: -1}) {
		t.Errorf("a donee of a donee is ready: %v", got)
	}
}

func TestP2402AllRowsOfWhoIsReady(t *testing.T) {
	for _, c := range systems() {
		b := newBoth(t, c)
		for _, ready := range rows(7) {
			// Each place comes with some of the rows, and those at the ends of windows with all.
			for place := len(ready) % 5; place < c.Frame; place += 5 {
				b.at(place, ready...)
			}
			for _, w := range c.Windows[:min(3, len(c.Windows))] {
				for _, tick := range []int{w.At - 1, w.At, w.At + c.Margin - 1, w.At + c.Margin, w.At + w.Len - 1, w.At + w.Len} {
					b.at(tick, ready...)
				}
			}
		}
		b.stop("all rows")
	}
}

func TestP2402TicksOfManyFrames(t *testing.T) {
	for _, c := range systems() {
		b := newBoth(t, c)
		table := frame.New(c.Frame, c.Margin, c.Windows...)
		for tick := -3 * c.Frame; tick < 4*c.Frame; tick++ {
			b.at(tick)
			b.at(tick, tick%2 == 0, tick%3 == 0, tick%5 == 0, tick%7 == 0)
			if got, again := b.s.At(tick, true, false, true), b.s.At(tick+c.Frame, true, false, true); got != again {
				t.Errorf("At %d and a frame later: %v and %v", tick, got, again)
			}
			// What is nobody's, or margin, in the table is so here.
			owner, kind := table.Owner(tick)
			got := b.s.At(tick, true, true, true, true, true, true)
			if got.Owner != owner || (got.Kind == gap) != (kind == frame.Gap) || (got.Kind == margin) != (kind == frame.Margin) {
				t.Errorf("At %d: %v, and in the table %d, %d", tick, got, owner, kind)
			}
		}
		b.stop("many frames")
	}
}

func TestP2402AVeryLongRow(t *testing.T) {
	b := newBoth(t, example())
	ready := make([]bool, 1<<20)
	for i := range ready {
		ready[i] = i > 3
	}
	for tick := range 20 {
		b.at(tick, ready...)
	}
	ready[2] = true
	for tick := range 20 {
		b.at(tick, ready...)
	}
}

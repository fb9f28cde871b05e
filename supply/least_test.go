package supply

import (
	"math"
	"testing"

	"parclose/conf"
)

func TestP802TheChaptersExample(t *testing.T) {
	a := made(t, example(), 0)
	for n, want := range []int{0, 0, 0, 0, 0, 0, 0, 0, 1, 2, 3, 3, 3, 3, 3, 3, 3, 3, 4, 5, 6, 6} {
		if few := a.Least(n); few != want {
			t.Errorf("Least of %d is %d, not %d", n, few, want)
		}
	}
	// From 0 on three ticks aren't open, from 6 on seven; eight from 5 on have one that is, as those from 6 on.
	for n, want := range []int{0, 0, 0, 0, 6, 6, 6, 6, 5, 4, 0, 0, 0, 0, 6, 6, 6, 6, 5, 4, 0} {
		if from := a.Worst(n); from != want {
			t.Errorf("Worst of %d is %d, not %d", n, from, want)
		}
	}
	for work, want := range []int{0, 8, 9, 10, 18, 19, 20, 28} {
		if wait, ok := a.Wait(work); wait != want || !ok {
			t.Errorf("Wait of %d is %d, %v, not %d", work, wait, ok, want)
		}
	}
	if open, all := a.Rate(); open != 3 || all != 10 {
		t.Errorf("the rate is %d of %d", open, all)
	}
}

func TestP802LeastAndWorstOfRows(t *testing.T) {
	rows := []struct {
		s                  shape
		p, n, least, worst int
	}{
		// Two windows: a dark time of three from 1 on, and one of four from 6 on over the end.
		{shape{10, 0, []conf.Window{{At: 0, Len: 1, Part: 2}, {At: 4, Len: 2, Part: 2}}}, 2, 1, 0, 1},
		{shape{10, 0, []conf.Window{{At: 0, Len: 1, Part: 2}, {At: 4, Len: 2, Part: 2}}}, 2, 3, 0, 1},
		{shape{10, 0, []conf.Window{{At: 0, Len: 1, Part: 2}, {At: 4, Len: 2, Part: 2}}}, 2, 4, 0, 6},
		{shape{10, 0, []conf.Window{{At: 0, Len: 1, Part: 2}, {At: 4, Len: 2, Part: 2}}}, 2, 5, 1, 5},
		{shape{10, 0, []conf.Window{{At: 0, Len: 1, Part: 2}, {At: 4, Len: 2, Part: 2}}}, 2, 8, 1, 6},
		{shape{10, 0, []conf.Window{{At: 0, Len: 1, Part: 2}, {At: 4, Len: 2, Part: 2}}}, 2, 9, 2, 1},
		{shape{10, 0, []conf.Window{{At: 0, Len: 1, Part: 2}, {At: 4, Len: 2, Part: 2}}}, 2, 10, 3, 0},
		{shape{10, 0, []conf.Window{{At: 0, Len: 1, Part: 2}, {At: 4, Len: 2, Part: 2}}}, 2, 18, 4, 6},
		// A margin takes a tick of it.
		{shape{10, 1, []conf.Window{{At: 2, Len: 4, Part: 0}}}, 0, 7, 0, 6},
		{shape{10, 1, []conf.Window{{At: 2, Len: 4, Part: 0}}}, 0, 8, 1, 5},
		// The whole margin of another one's window is not its own.
		{shape{10, 1, []conf.Window{{At: 0, Len: 9, Part: 1}, {At: 9, Len: 1, Part: 0}}}, 0, 100, 0, 0},
		// The last tick of the greatest frame.
		{shape{256, 0, []conf.Window{{At: 255, Len: 1, Part: 0}}}, 0, 255, 0, 0},
		{shape{256, 0, []conf.Window{{At: 255, Len: 1, Part: 0}}}, 0, 256, 1, 0},
		{shape{256, 0, []conf.Window{{At: 0, Len: 1, Part: 0}}}, 0, 255, 0, 1},
		{shape{256, 0, []conf.Window{{At: 0, Len: 255, Part: 0}}}, 0, 1, 0, 255},
		{shape{256, 0, []conf.Window{{At: 0, Len: 255, Part: 0}}}, 0, 2, 1, 254},
		{shape{256, 0, []conf.Window{{At: 0, Len: 255, Part: 0}}}, 0, 255, 254, 1},
	}
	for _, r := range rows {
		a := made(t, r.s, r.p)
		if few := a.Least(r.n); few != r.least {
			t.Errorf("%v: Least of %d is %d, not %d", r.s, r.n, few, r.least)
		}
		if from := a.Worst(r.n); from != r.worst {
			t.Errorf("%v: Worst of %d is %d, not %d", r.s, r.n, from, r.worst)
		}
	}
}

func TestP802LeastAndWorstHeldAgainstCounting(t *testing.T) {
	each(t, func(s shape, p int) {
		a := made(t, s, p)
		least, worst := look(s, p).counted()
		for n := range least {
			if few := a.Least(n); few != least[n] {
				t.Fatalf("%v: of %d Least of %d is %d, not %d", s, p, n, few, least[n])
			}
			if from := a.Worst(n); from != worst[n] {
				t.Fatalf("%v: of %d Worst of %d is %d, not %d", s, p, n, from, worst[n])
			}
		}
	})
}

func TestP802LeastAndWorstOfNumbersBelow0(t *testing.T) {
	each(t, func(s shape, p int) {
		a := made(t, s, p)
		for _, n := range []int{math.MinInt, math.MinInt + 1, -1 << 62, -1 << 50, -257, -256, -s.frame - 1, -s.frame, 1 - s.frame, -2, -1, 0} {
			if few, from := a.Least(n), a.Worst(n); few != 0 || from != 0 {
				t.Errorf("%v: of %d, of %d ticks it is %d from %d on", s, p, n, few, from)
			}
		}
	})
}

// smallOnes: shapes of which huge numbers are soon worked out, and some of the greatest frames.
func smallOnes() []shape {
	var l []shape
	for i, s := range shapes() {
		if s.frame < 40 || i < 18 {
			l = append(l, s)
		}
	}
	return l
}

func TestP802LeastAndWorstOfHugeNumbers(t *testing.T) {
	for _, s := range smallOnes() {
		for p := range 6 {
			a, m := made(t, s, p), look(s, p)
			for _, n := range edges {
				least, worst := m.few(n)
				if few := a.Least(n); few != least {
					t.Errorf("%v: of %d Least of %d is %d, not %d", s, p, n, few, least)
				}
				if from := a.Worst(n); from != worst {
					t.Errorf("%v: of %d Worst of %d is %d, not %d", s, p, n, from, worst)
				}
			}
		}
	}
}

func TestP802MoreThan2To50IsAsThat(t *testing.T) {
	each(t, func(s shape, p int) {
		a := made(t, s, p)
		least, worst := a.Least(1<<50), a.Worst(1<<50)
		for _, n := range []int{1<<50 + 1, 1<<50 + 2, 1<<50 + 100, 1<<50 + s.frame, 1 << 51, 1 << 62, 1<<62 + 1, math.MaxInt - 1, math.MaxInt} {
			if few, from := a.Least(n), a.Worst(n); few != least || from != worst {
				t.Errorf("%v: of %d, of %d ticks it is %d from %d on, not %d from %d on", s, p, n, few, from, least, worst)
			}
		}
	})
	// All of it open, so that one tick less is one less.
	a := made(t, shape{1, 0, []conf.Window{{At: 0, Len: 1, Part: 0}}}, 0)
	for n, want := range map[int]int{1<<50 - 1: 1<<50 - 1, 1 << 50: 1 << 50, 1<<50 + 1: 1 << 50, math.MaxInt: 1 << 50} {
		if few := a.Least(n); few != want {
			t.Errorf("Least of %d is %d", n, few)
		}
	}
}

func TestP802RateIsWhatAFrameOffers(t *testing.T) {
	each(t, func(s shape, p int) {
		want := look(s, p).offered()
		if open, all := made(t, s, p).Rate(); open != want || all != s.frame {
			t.Errorf("%v: the rate of %d is %d of %d, not %d", s, p, open, all, want)
		}
	})
}

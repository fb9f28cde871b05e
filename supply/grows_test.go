package supply

import (
	"math/rand/v2"
	"testing"
)

// numbers: those of some frames, and drawn ones, up to where a sum of two is cut.
func numbers(s shape) []int {
	var l []int
	for n := range 2*s.frame + 2 {
		l = append(l, n)
	}
	r := rand.New(rand.NewPCG(uint64(s.frame), 803))
	for range 200 {
		l = append(l, r.IntN(1<<uint(1+r.IntN(49))))
	}
	return append(l, 1<<31, 1<<32-1, 1<<40, 1<<48+1, 1<<49-1, 1<<49-s.frame, 1<<49)
}

func TestP803NoTick(t *testing.T) {
	each(t, func(s shape, p int) {
		if few := made(t, s, p).Least(0); few != 0 {
			t.Errorf("%v: the supply of %d of no tick is %d", s, p, few)
		}
	})
}

func TestP803OneTickMoreIsTheSameOrOneMore(t *testing.T) {
	each(t, func(s shape, p int) {
		a := made(t, s, p)
		for _, n := range append(numbers(s), edges...) {
			if n == edges[len(edges)-1] {
				continue
			}
			if more := a.Least(n+1) - a.Least(n); more != 0 && more != 1 {
				t.Errorf("%v: of %d it is %d more of a tick behind %d", s, p, more, n)
			}
		}
	})
}

func TestP803AFrameMoreIsMoreByWhatItOffers(t *testing.T) {
	each(t, func(s shape, p int) {
		a := made(t, s, p)
		want := look(s, p).offered()
		for _, n := range append(numbers(s), 1<<50-s.frame, 1<<50-s.frame-1) {
			if more := a.Least(n+s.frame) - a.Least(n); more != want {
				t.Errorf("%v: of %d it is %d more of a frame behind %d, not %d", s, p, more, n, want)
			}
			if a.Worst(n+s.frame) != a.Worst(n) {
				t.Errorf("%v: of %d the worst is %d of a frame more than %d, and %d of that", s, p, a.Worst(n+s.frame), n, a.Worst(n))
			}
		}
	})
}

func TestP803TwoTimesTogetherAreAtLeastBoth(t *testing.T) {
	more := 0
	each(t, func(s shape, p int) {
		a, l := made(t, s, p), numbers(s)
		for i, n := range l {
			// Each with some others, of all kinds, itself among them.
			for j := i; j < len(l); j += 1 + len(l)/40 {
				both, together := a.Least(n)+a.Least(l[j]), a.Least(n+l[j])
				if together < both {
					t.Errorf("%v: of %d it is %d of %d and %d together, and %d of both", s, p, together, n, l[j], both)
				}
				if together > both {
					more++
				}
			}
		}
	})
	if more == 0 {
		t.Error("of none of them it is more together")
	}
}

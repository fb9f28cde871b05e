package supply

import (
	"math"
	"testing"

	"parclose/conf"
)

// waitIs holds what Wait answers of some work.
func waitIs(t *testing.T, s shape, p, work, want int, found bool) {
	t.Helper()
	if wait, ok := made(t, s, p).Wait(work); wait != want || ok != found {
		t.Errorf("%v: of %d Wait of %d is %d, %v; not %d, %v", s, p, work, wait, ok, want, found)
	}
}

func TestP802WaitForNoWork(t *testing.T) {
	each(t, func(s shape, p int) {
		for _, work := range []int{math.MinInt, math.MinInt + 1, -1 << 62, -1<<40 - 1, -1 << 40, -257, -s.frame, -2, -1, 0} {
			waitIs(t, s, p, work, 0, true)
		}
	})
}

func TestP802WaitWithoutOpenTicks(t *testing.T) {
	for _, s := range []shape{
		{1, 0, nil},
		{256, 8, nil},
		{10, 3, []conf.Window{{At: 3, Len: 3, Part: 0}}},
		{10, 0, []conf.Window{{At: 0, Len: 10, Part: 1}}},
	} {
		for _, work := range []int{1, 2, 3, 10, 256, 1 << 32, 1<<40 - 1, 1 << 40, 1<<40 + 1, math.MaxInt} {
			waitIs(t, s, 0, work, 0, false)
		}
		waitIs(t, s, 0, 0, 0, true)
		waitIs(t, s, 0, -1, 0, true)
	}
}

func TestP802WaitHeldAgainstTheLeastOfAllTicks(t *testing.T) {
	waits := 0
	each(t, func(s shape, p int) {
		a := made(t, s, p)
		least, _ := look(s, p).counted()
		n := 0
		for work := 1; work <= least[len(least)-1]; work++ {
			for least[n] < work {
				n++
			}
			waits++
			if wait, ok := a.Wait(work); wait != n || !ok {
				t.Fatalf("%v: of %d Wait of %d is %d, %v; not %d", s, p, work, wait, ok, n)
			}
		}
	})
	if waits < 1000 {
		t.Errorf("only %d waits are held", waits)
	}
}

// longest: how many ticks work takes at most, of all beginnings, worked off tick by tick.
func (m looked) longest(work int) int {
	most := 0
	for from := range m {
		left, tick := work, from
		for ; left > 0; tick++ {
			if m.open(tick) {
				left--
			}
		}
		most = max(most, tick-from)
	}
	return most
}

func TestP802WaitIsTheLongestThatWorkTakes(t *testing.T) {
	for _, s := range smallOnes() {
		for p := range 6 {
			m := look(s, p)
			if m.offered() == 0 {
				continue
			}
			for _, work := range []int{1, 2, m.offered() - 1, m.offered(), m.offered() + 1, 2*m.offered() + 1, 3 * m.offered()} {
				waitIs(t, s, p, work, m.longest(work), true)
			}
		}
	}
}

func TestP802WaitForHugeWork(t *testing.T) {
	for _, s := range smallOnes() {
		for p := range 6 {
			a, m := made(t, s, p), look(s, p)
			if m.offered() == 0 {
				continue
			}
			for _, work := range []int{1 << 16, 1<<31 - 1, 1<<32 + 1, 1<<39 + 5, 1<<40 - 2, 1<<40 - 1, 1 << 40} {
				wait, ok := a.Wait(work)
				enough, _ := m.few(wait)
				less, _ := m.few(wait - 1)
				if !ok || enough < work || less >= work {
					t.Errorf("%v: of %d Wait of %d is %d, %v: supplies of %d, and %d of one tick less", s, p, work, wait, ok, enough, less)
				}
			}
		}
	}
}

func TestP802WaitForMoreThan2To40(t *testing.T) {
	each(t, func(s shape, p int) {
		for _, work := range []int{1<<40 + 1, 1<<40 + 2, 1 << 41, 1 << 50, 1<<50 + 1, 1 << 62, math.MaxInt - 1, math.MaxInt} {
			waitIs(t, s, p, work, 0, false)
		}
	})
	one := shape{256, 0, []conf.Window{{At: 255, Len: 1, Part: 0}}}
	waitIs(t, one, 0, 1<<40, 1<<48, true)
	waitIs(t, one, 0, 1<<40-1, 1<<48-256, true)
	waitIs(t, one, 0, 1, 256, true)
	waitIs(t, example(), 0, 1<<40, (1<<40-1)/3*10+8, true)
}

func TestP802WaitAndLeastAreOfOneMind(t *testing.T) {
	each(t, func(s shape, p int) {
		a := made(t, s, p)
		for _, work := range edges {
			wait, ok := a.Wait(work)
			if !ok || work < 1 {
				continue
			}
			if a.Least(wait) != work || a.Least(wait-1) != work-1 {
				t.Errorf("%v: of %d Wait of %d is %d, with supplies of %d, and %d of one tick less", s, p, work, wait, a.Least(wait), a.Least(wait-1))
			}
		}
	})
}

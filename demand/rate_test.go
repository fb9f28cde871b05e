package demand

import (
	"math"
	"testing"

	"parclose/conf"
	"parclose/num"
)

// out: so far out that each demand grows by its period.
const out = 5000

// grows: how much more a whole partition asks for, of ticks more: of each by its whole periods in them, as far out.
func grows(ticks int, a conf.Part, inHigh bool) int {
	ticks = min(max(ticks, 0), far)
	sum := 0
	for _, k := range a.Tasks {
		if rightTask(k) {
			sum += ticks / k.T * (asked(k, out+k.T, inHigh) - asked(k, out, inHigh))
		}
	}
	for _, s := range a.Servers {
		if rightServer(s) && !inHigh {
			sum += ticks / s.T * (served(s, out+s.T) - served(s, out))
		}
	}
	return sum
}

func checkRate(t *testing.T, ticks int, a conf.Part, inHigh bool, want int) {
	t.Helper()
	if n := Rate(ticks, a, inHigh); n != want {
		t.Errorf("%+v, high %v: of %d ticks the rate is %d, not %d", a, inHigh, ticks, n, want)
	}
}

func TestP904RateByHand(t *testing.T) {
	a := conf.Part{
		Tasks:   []conf.Task{low(5, 4, 1), example(), high(20, 12, 7, 3, 6)},
		Servers: []conf.Server{{C: 2, T: 10}, {Refill: true, C: 3, T: 15}},
	}
	for _, c := range [][3]int{
		{60, 12 + 12 + 9 + 12 + 12, 30 + 18}, {120, 114, 96}, {0, 0, 0}, {1, 0, 0}, {4, 0, 0}, {5, 1, 0}, {9, 1, 0}, {10, 2 + 2 + 2, 5},
		{19, 3 + 2 + 2 + 3, 5}, {20, 4 + 4 + 3 + 4 + 3, 10 + 6}, {59, 11 + 10 + 6 + 10 + 9, 25 + 12}, {-1, 0, 0}, {-60, 0, 0}, {math.MinInt, 0, 0},
	} {
		checkRate(t, c[0], a, false, c[1])
		checkRate(t, c[0], a, true, c[2])
	}
}

func TestP904RateAsTheDemandGrows(t *testing.T) {
	for _, a := range parts() {
		var periods []int
		for _, k := range a.Tasks {
			if rightTask(k) {
				periods = append(periods, k.T)
			}
		}
		for _, s := range a.Servers {
			if rightServer(s) {
				periods = append(periods, s.T)
			}
		}
		round, ok := num.Lcm(1<<35, periods...)
		if !ok {
			continue
		}
		for _, inHigh := range modes {
			for _, from := range []int{out, out + 1, out + 7, 1 << 20, 1 << 39} {
				for _, times := range []int{1, 2, 9} {
					ticks := times * round
					checkRate(t, ticks, a, inHigh, of(a, from+ticks, inHigh)-of(a, from, inHigh))
				}
			}
		}
	}
}

func TestP904RateOfAnyTicks(t *testing.T) {
	for _, a := range parts() {
		for _, inHigh := range modes {
			for _, ticks := range edges {
				checkRate(t, ticks, a, inHigh, grows(ticks, a, inHigh))
			}
			for ticks := range 60 {
				checkRate(t, ticks, a, inHigh, grows(ticks, a, inHigh))
			}
		}
	}
}

func TestP904RateIsCut(t *testing.T) {
	a := conf.Part{Tasks: []conf.Task{low(1, 1, 1), high(1, 1, 1, 1, 1)}, Servers: []conf.Server{{C: 1, T: 1}, {Refill: true, C: 1, T: 1}}}
	for _, ticks := range []int{far, far + 1, 1 << 41, 1 << 62, math.MaxInt} {
		checkRate(t, ticks, a, false, 4*far)
		checkRate(t, ticks, a, true, far)
	}
	checkRate(t, far-1, a, false, 4*far-4)
	checkRate(t, far-1, a, true, far-1)
}

func TestP904RateOfWhatDoesNotCount(t *testing.T) {
	for _, ticks := range edges {
		checkRate(t, ticks, conf.Part{}, false, 0)
		checkRate(t, ticks, conf.Part{}, true, 0)
		checkRate(t, ticks, conf.Part{Tasks: wrongTasks(), Servers: wrongServers()}, false, 0)
		checkRate(t, ticks, conf.Part{Tasks: wrongTasks(), Servers: append(wrongServers(), servers()...)}, true, 0)
		checkRate(t, ticks, conf.Part{Tasks: []conf.Task{low(5, 4, 1)}}, true, 0)
	}
	a := conf.Part{Tasks: append(wrongTasks(), example()), Servers: append(wrongServers(), conf.Server{C: 2, T: 10})}
	checkRate(t, 30, a, false, 12)
	checkRate(t, 30, a, true, 15)
}

func TestP904RateOfLongLists(t *testing.T) {
	a := many()
	checkRate(t, far, a, false, grows(far, a, false))
	checkRate(t, far, a, true, grows(far, a, true))
}

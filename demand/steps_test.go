package demand

import (
	"math"
	"slices"
	"testing"

	"parclose/conf"
)

var modes = []bool{false, true}

// oneByOne: the steps up to most, each number asked for.
func oneByOne(a conf.Part, most int, inHigh bool) []int {
	most = max(0, min(most, 65536))
	var l []int
	before := all(a, 0, inHigh)
	for n := 1; n <= most; n++ {
		now := all(a, n, inHigh)
		if now != before {
			l = append(l, n)
		}
		before = now
	}
	return l
}

func checkSteps(t *testing.T, a conf.Part, most int, inHigh bool, want ...int) {
	t.Helper()
	if l := Steps(a, most, inHigh); !slices.Equal(l, want) {
		t.Errorf("%+v, high %v: up to %d the steps are %v, not %v", a, inHigh, most, cutShort(l), cutShort(want))
	}
}

func cutShort(l []int) []int { return l[:min(len(l), 60)] }

func TestP904StepsByHand(t *testing.T) {
	a := conf.Part{Tasks: []conf.Task{example()}}
	checkSteps(t, a, 40, false, 6, 16, 26, 36)
	checkSteps(t, a, 40, true, 4, 5, 6, 14, 15, 16, 24, 25, 26, 34, 35, 36)
	checkSteps(t, a, 36, false, 6, 16, 26, 36)
	checkSteps(t, a, 35, false, 6, 16, 26)
	checkSteps(t, a, 6, false, 6)
	checkSteps(t, a, 5, false)
	checkSteps(t, a, 3, true)
	a.Servers = []conf.Server{{C: 2, T: 8}}
	checkSteps(t, a, 20, false, 6, 8, 16)
	checkSteps(t, a, 10, true, 4, 5, 6)
	a.Servers[0].Refill = true
	checkSteps(t, a, 25, false, 6, 8, 9, 16, 17, 25)
}

func TestP904StepsOfOneThatMayGiveNothing(t *testing.T) {
	// Top is Lo: when a job comes, all of it may have been done.
	checkSteps(t, conf.Part{Tasks: []conf.Task{high(10, 10, 6, 2, 2)}}, 20, true, 5, 6, 15, 16)
	checkSteps(t, conf.Part{Tasks: []conf.Task{high(5, 5, 5, 2, 2)}}, 12, true, 1, 2, 6, 7, 11, 12)
	checkSteps(t, conf.Part{Tasks: []conf.Task{high(5, 5, 5, 2, 3)}}, 12, true, 1, 2, 5, 6, 7, 10, 11, 12)
	checkSteps(t, conf.Part{Tasks: []conf.Task{high(3, 3, 3, 3, 3)}}, 7, true, 1, 2, 3, 4, 5, 6, 7)
	checkSteps(t, conf.Part{Tasks: []conf.Task{high(3, 3, 1, 1, 2)}}, 7, true, 2, 3, 5, 6)
}

func TestP904StepsOfServers(t *testing.T) {
	checkSteps(t, conf.Part{Servers: []conf.Server{{C: 1, T: 1}}}, 4, false, 1, 2, 3, 4)
	checkSteps(t, conf.Part{Servers: []conf.Server{{Refill: true, C: 1, T: 1}}}, 4, false, 1, 2, 3, 4)
	checkSteps(t, conf.Part{Servers: []conf.Server{{C: 1, T: 3}}}, 10, false, 3, 6, 9)
	checkSteps(t, conf.Part{Servers: []conf.Server{{Refill: true, C: 1, T: 3}}}, 10, false, 3, 4, 7, 10)
	checkSteps(t, conf.Part{Servers: []conf.Server{{Refill: true, C: 1, T: 3}}}, 3, false, 3)
	checkSteps(t, conf.Part{Servers: []conf.Server{{Refill: true, C: 1, T: 1000}}}, 2002, false, 1000, 1001, 2001)
	checkSteps(t, conf.Part{Servers: servers()}, 3000, true)
}

func TestP904StepsOfNone(t *testing.T) {
	for _, inHigh := range modes {
		for _, most := range edges {
			checkSteps(t, conf.Part{}, most, inHigh)
			checkSteps(t, conf.Part{Tasks: wrongTasks(), Servers: wrongServers()}, most, inHigh)
		}
	}
	checkSteps(t, conf.Part{Tasks: []conf.Task{low(5, 4, 1)}}, 1000, true)
}

func TestP904StepsOneByOne(t *testing.T) {
	for _, a := range parts() {
		for _, inHigh := range modes {
			whole := oneByOne(a, 2100, inHigh)
			for _, most := range []int{math.MinInt, -65536, -1, 0, 1, 2, 3, 5, 9, 10, 11, 37, 100, 255, 256, 257, 999, 1000, 1001, 1002, 2001, 2100} {
				upTo, _ := slices.BinarySearch(whole, most+1)
				checkSteps(t, a, most, inHigh, whole[:upTo]...)
			}
		}
	}
}

func TestP904StepsAllSmallTasks(t *testing.T) {
	for code := range 2 * 5 * 5 * 5 * 5 * 5 {
		number := code >> 1
		take := func() int {
			n := 1 + number%5
			number /= 5
			return n
		}
		k := conf.Task{Hi: code%2 == 1, T: take(), D: take(), V: take(), Lo: take(), Top: take()}
		a := conf.Part{Tasks: []conf.Task{k}}
		for _, inHigh := range modes {
			checkSteps(t, a, 17, inHigh, oneByOne(a, 17, inHigh)...)
		}
	}
}

func TestP904StepsFarOut(t *testing.T) {
	for i, a := range parts() {
		if len(a.Tasks) > 30 || i%4 != 0 && i > 12 {
			continue
		}
		for _, inHigh := range modes {
			whole := oneByOne(a, 65536, inHigh)
			for _, most := range []int{65536, 65537, 1 << 20, 1 << 40, 1 << 62, math.MaxInt - 1, math.MaxInt} {
				checkSteps(t, a, most, inHigh, whole...)
			}
			if n := len(whole); n > 0 && whole[n-1] == 65536 {
				checkSteps(t, a, 65535, inHigh, whole[:n-1]...)
			}
		}
	}
	every := conf.Part{Tasks: []conf.Task{low(1, 1, 1)}}
	if l := Steps(every, math.MaxInt, false); len(l) != 65536 || l[0] != 1 || l[65535] != 65536 {
		t.Errorf("of each tick there are %d steps", len(l))
	}
	last := conf.Part{Tasks: []conf.Task{low(512, 512, 1)}}
	if l := Steps(last, 1<<16, false); len(l) != 128 || l[127] != 65536 {
		t.Errorf("of each 512 ticks there are %d steps", len(l))
	}
}

// many: a great many right tasks, no two alike, that have few steps in low mode, and servers.
func many() conf.Part {
	var a conf.Part
	for budget := 1; budget <= 1000; budget++ {
		for top := budget; top <= 1000; top++ {
			a.Tasks = append(a.Tasks, high(1000, 1000, 1000, budget, top))
		}
		a.Servers = append(a.Servers, conf.Server{C: budget, T: 1000}, conf.Server{C: budget, T: 1000, Refill: true})
	}
	return a
}

func TestP904StepsOfLongLists(t *testing.T) {
	a := many()
	var want []int
	for n := 1000; n <= 65536; n += 1000 {
		want = append(want, n)
		if n+1 <= 65536 {
			want = append(want, n+1)
		}
	}
	checkSteps(t, a, 1<<16, false, want...)
	if l := Steps(a, 1<<16, true); len(l) != 65536 {
		t.Errorf("of %d tasks there are %d steps", len(a.Tasks), len(l))
	}
}

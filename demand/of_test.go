package demand

import (
	"math"
	"testing"

	"parclose/conf"
)

// point: a time, and the demand of so many ticks.
type point struct{ t, want int }

func checkTask(t *testing.T, k conf.Task, inHigh bool, l ...point) {
	t.Helper()
	for _, p := range l {
		if n := Of(k, p.t, inHigh); n != p.want {
			t.Errorf("%+v, high %v: of %d ticks it is %d, not %d", k, inHigh, p.t, n, p.want)
		}
	}
}

func checkServer(t *testing.T, s conf.Server, l ...point) {
	t.Helper()
	for _, p := range l {
		if n := Serve(s, p.t); n != p.want {
			t.Errorf("%+v: of %d ticks it is %d, not %d", s, p.t, n, p.want)
		}
	}
}

func TestP902TheExample(t *testing.T) {
	checkTask(t, example(), false, point{6, 2}, point{16, 4}, point{5, 0}, point{15, 2})
	checkTask(t, example(), true, point{4, 3}, point{6, 5}, point{3, 0}, point{5, 4})
}

func TestP902LowMode(t *testing.T) {
	for _, k := range []conf.Task{low(10, 7, 3), high(10, 9, 7, 3, 5), high(10, 7, 7, 3, 3)} {
		checkTask(t, k, false, point{-1, 0}, point{0, 0}, point{1, 0}, point{6, 0}, point{7, 3}, point{8, 3}, point{10, 3}, point{16, 3},
			point{17, 6}, point{18, 6}, point{26, 6}, point{27, 9}, point{10006, 3000}, point{10007, 3003})
	}
	checkTask(t, low(1, 1, 1), false, point{0, 0}, point{1, 1}, point{2, 2}, point{77, 77})
}

func TestP902HighMode(t *testing.T) {
	// D - V is 5; what was done is gone at 8; there is no job ahead of 12.
	k := high(20, 12, 7, 3, 6)
	checkTask(t, k, true, point{-1, 0}, point{0, 0}, point{4, 0}, point{5, 3}, point{6, 4}, point{7, 5}, point{8, 6}, point{9, 6},
		point{11, 6}, point{12, 6}, point{13, 6}, point{20, 6}, point{24, 6}, point{25, 9}, point{26, 10}, point{28, 12}, point{44, 12}, point{45, 15},
		point{20004, 6000}, point{20005, 6003}, point{20008, 6006})
}

func TestP902HighModeWhereMuchWasDone(t *testing.T) {
	// Lo is V: some of it was done up to the tick ahead of D.
	k := high(20, 12, 7, 7, 9)
	checkTask(t, k, true, point{4, 0}, point{5, 2}, point{6, 3}, point{11, 8}, point{12, 9}, point{13, 9}, point{24, 9}, point{25, 11}, point{31, 17}, point{32, 18})
}

func TestP902HighModeOfATaskWithoutHaste(t *testing.T) {
	// V is D: a job is there from the first tick on, and all of it may have been done.
	checkTask(t, high(10, 10, 10, 3, 3), true, point{-1, 0}, point{0, 0}, point{1, 1}, point{2, 2}, point{3, 3}, point{9, 3}, point{10, 3}, point{11, 4}, point{13, 6})
	checkTask(t, high(10, 8, 8, 3, 5), true, point{-1, 2}, point{0, 2}, point{1, 3}, point{3, 5}, point{7, 5}, point{8, 5}, point{9, 5}, point{10, 7}, point{11, 8})
	checkTask(t, high(10, 10, 10, 10, 10), true, point{0, 0}, point{1, 1}, point{9, 9}, point{10, 10}, point{11, 11}, point{25, 25})
}

func TestP902HighModeOfATaskThatIsNotHi(t *testing.T) {
	for _, k := range tasks() {
		if k.Hi {
			continue
		}
		for _, n := range timesOf(k) {
			checkTask(t, k, true, point{n, 0})
		}
	}
}

func TestP902AsJobsAreCounted(t *testing.T) {
	for _, k := range tasks() {
		for _, n := range timesOf(k) {
			checkTask(t, k, false, point{n, asked(k, n, false)})
			checkTask(t, k, true, point{n, asked(k, n, true)})
		}
	}
}

func TestP902AllSmallTasks(t *testing.T) {
	numbers := []int{-1, 0, 1, 2, 3, 4, 5, 6}
	for code := range 2 * 8 * 8 * 8 * 8 * 8 {
		at := func(place int) int { return numbers[code>>1>>(3*place)%8] }
		k := conf.Task{Hi: code%2 == 1, T: at(0), D: at(1), V: at(2), Lo: at(3), Top: at(4)}
		for n := -1; n <= 20; n++ {
			checkTask(t, k, false, point{n, asked(k, n, false)})
			checkTask(t, k, true, point{n, asked(k, n, true)})
		}
	}
}

func TestP902TimesAreCut(t *testing.T) {
	for _, k := range tasks() {
		for _, inHigh := range []bool{false, true} {
			least, most := Of(k, 0, inHigh), Of(k, far, inHigh)
			checkTask(t, k, inHigh, point{-1, least}, point{-far, least}, point{math.MinInt, least})
			checkTask(t, k, inHigh, point{far + 1, most}, point{far + k.T, most}, point{1 << 62, most}, point{math.MaxInt, most})
		}
	}
	for _, s := range servers() {
		most := Serve(s, far)
		checkServer(t, s, point{-1, 0}, point{-far, 0}, point{math.MinInt, 0})
		checkServer(t, s, point{far + 1, most}, point{far + s.T, most}, point{1 << 62, most}, point{math.MaxInt, most})
	}
	checkTask(t, low(1, 1, 1), false, point{far - 1, far - 1}, point{far, far}, point{far + 1, far})
	checkTask(t, high(1, 1, 1, 1, 1), true, point{far - 1, far - 1}, point{far, far}, point{far + 1, far})
	checkServer(t, conf.Server{C: 1, T: 1}, point{far - 1, far - 1}, point{far, far}, point{far + 1, far})
	checkServer(t, conf.Server{Refill: true, C: 1, T: 1}, point{far - 1, far - 1}, point{far, far}, point{far + 1, far})
}

func TestP902WhatIsNotRightAsksForNothing(t *testing.T) {
	for _, k := range wrongTasks() {
		for _, n := range edges {
			checkTask(t, k, false, point{n, 0})
			checkTask(t, k, true, point{n, 0})
		}
	}
	for _, s := range wrongServers() {
		for _, n := range edges {
			checkServer(t, s, point{n, 0})
		}
	}
}

func TestP902TasksWithANumberAtTheEnds(t *testing.T) {
	for _, k := range []conf.Task{example(), low(10, 7, 3)} {
		for _, n := range edges {
			for _, turned := range []conf.Task{
				{Hi: k.Hi, T: n, D: k.D, V: k.V, Lo: k.Lo, Top: k.Top}, {Hi: k.Hi, T: k.T, D: n, V: k.V, Lo: k.Lo, Top: k.Top},
				{Hi: k.Hi, T: k.T, D: k.D, V: n, Lo: k.Lo, Top: k.Top}, {Hi: k.Hi, T: k.T, D: k.D, V: k.V, Lo: n, Top: k.Top},
				{Hi: k.Hi, T: k.T, D: k.D, V: k.V, Lo: k.Lo, Top: n}, {Hi: k.Hi, T: n, D: n, V: n, Lo: n, Top: n},
			} {
				for _, ticks := range edges {
					checkTask(t, turned, false, point{ticks, asked(turned, ticks, false)})
					checkTask(t, turned, true, point{ticks, asked(turned, ticks, true)})
				}
			}
		}
	}
}

func TestP902Serve(t *testing.T) {
	s := conf.Server{C: 3, T: 10}
	checkServer(t, s, point{-1, 0}, point{0, 0}, point{9, 0}, point{10, 3}, point{11, 3}, point{19, 3}, point{20, 6}, point{21, 6}, point{29, 6}, point{30, 9}, point{9999, 2997}, point{10000, 3000})
	s.Refill = true
	checkServer(t, s, point{-1, 0}, point{0, 0}, point{1, 0}, point{9, 0}, point{10, 3}, point{11, 6}, point{19, 6}, point{20, 6}, point{21, 9}, point{30, 9}, point{31, 12}, point{10000, 3000}, point{10001, 3003})
	checkServer(t, conf.Server{C: 1, T: 1}, point{0, 0}, point{1, 1}, point{2, 2}, point{50, 50})
	checkServer(t, conf.Server{Refill: true, C: 1, T: 1}, point{0, 0}, point{1, 1}, point{2, 2}, point{50, 50})
}

func TestP902ServeAsPeriodsAreCounted(t *testing.T) {
	for _, s := range servers() {
		for _, n := range near(s.T, 0, 1, s.C) {
			checkServer(t, s, point{n, served(s, n)})
		}
	}
	for period := -1; period <= 7; period++ {
		for c := -1; c <= 8; c++ {
			for n := -1; n <= 40; n++ {
				for _, refill := range []bool{false, true} {
					s := conf.Server{Refill: refill, C: c, T: period}
					checkServer(t, s, point{n, served(s, n)})
				}
			}
		}
	}
}

func TestP902ServersWithANumberAtTheEnds(t *testing.T) {
	for _, n := range edges {
		for _, refill := range []bool{false, true} {
			for _, s := range []conf.Server{{Refill: refill, C: n, T: 10}, {Refill: refill, C: 3, T: n}, {Refill: refill, C: n, T: n}} {
				for _, ticks := range edges {
					checkServer(t, s, point{ticks, served(s, ticks)})
				}
			}
		}
	}
}

package demand

import (
	"math"
	"testing"

	"parclose/conf"
)

func checkPart(t *testing.T, a conf.Part, l ...[3]int) {
	t.Helper()
	for _, p := range l {
		if n := Low(a, p[0]); n != p[1] {
			t.Errorf("%+v: low, of %d ticks it is %d, not %d", a, p[0], n, p[1])
		}
		if n := High(a, p[0]); n != p[2] {
			t.Errorf("%+v: high, of %d ticks it is %d, not %d", a, p[0], n, p[2])
		}
	}
}

func TestP903TasksAndServers(t *testing.T) {
	a := conf.Part{
		Tasks:   []conf.Task{low(5, 4, 1), example(), high(20, 12, 7, 3, 6)},
		Servers: []conf.Server{{C: 2, T: 10}, {Refill: true, C: 3, T: 15}},
	}
	checkPart(t, a, [3]int{-1, 0, 0}, [3]int{3, 0, 0}, [3]int{4, 1, 3}, [3]int{6, 3, 9}, [3]int{7, 6, 10}, [3]int{10, 9, 11}, [3]int{15, 13, 15}, [3]int{16, 18, 16})
}

func TestP903TasksAlone(t *testing.T) {
	checkPart(t, conf.Part{Tasks: []conf.Task{low(5, 4, 1)}}, [3]int{3, 0, 0}, [3]int{4, 1, 0}, [3]int{9, 2, 0})
	checkPart(t, conf.Part{Tasks: []conf.Task{example(), example()}}, [3]int{4, 0, 6}, [3]int{6, 4, 10}, [3]int{16, 8, 20})
}

func TestP903ServersAloneDoNotCountInHighMode(t *testing.T) {
	a := conf.Part{Servers: []conf.Server{{C: 2, T: 10}, {Refill: true, C: 3, T: 15}}}
	checkPart(t, a, [3]int{9, 0, 0}, [3]int{10, 2, 0}, [3]int{15, 5, 0}, [3]int{16, 8, 0}, [3]int{1 << 30, 429496731, 0})
}

func TestP903None(t *testing.T) {
	for _, n := range edges {
		checkPart(t, conf.Part{}, [3]int{n, 0, 0})
		checkPart(t, conf.Part{Tasks: []conf.Task{}, Servers: []conf.Server{}, Donees: []int{0, 1}, Acts: [3]uint8{2, 2, 9}}, [3]int{n, 0, 0})
	}
}

func TestP903WhatIsNotRightIsLeftOut(t *testing.T) {
	for _, n := range edges {
		checkPart(t, conf.Part{Tasks: wrongTasks(), Servers: wrongServers()}, [3]int{n, 0, 0})
	}
	a := conf.Part{Tasks: append(wrongTasks(), example()), Servers: append(wrongServers(), conf.Server{C: 2, T: 10})}
	checkPart(t, a, [3]int{4, 0, 3}, [3]int{6, 2, 5}, [3]int{10, 4, 5}, [3]int{16, 6, 10})
	a.Tasks, a.Servers = append(a.Tasks, wrongTasks()...), append(a.Servers, wrongServers()...)
	checkPart(t, a, [3]int{4, 0, 3}, [3]int{6, 2, 5}, [3]int{10, 4, 5}, [3]int{16, 6, 10})
}

func TestP903AllTogether(t *testing.T) {
	for _, a := range parts() {
		for _, n := range append(near(7, 10, 1000), 12, 13, 14, 23, 57, 360, 2520) {
			checkPart(t, a, [3]int{n, all(a, n, false), all(a, n, true)})
		}
	}
}

func TestP903MoreThanThereMayBe(t *testing.T) {
	var a conf.Part
	for range 5000 {
		a.Tasks = append(a.Tasks, example())
		a.Servers = append(a.Servers, conf.Server{C: 2, T: 10})
	}
	checkPart(t, a, [3]int{5, 0, 20000}, [3]int{6, 10000, 25000}, [3]int{10, 20000, 25000})
	checkPart(t, a, [3]int{far, all(a, far, false), all(a, far, true)})
}

func TestP905TotalNeverWraps(t *testing.T) {
	for _, c := range []struct {
		l    []int
		want int
	}{
		{nil, 0}, {[]int{7}, 7}, {[]int{1, 2, 3}, 6}, {[]int{math.MaxInt - 1, 1}, math.MaxInt}, {[]int{1, math.MaxInt - 1}, math.MaxInt},
		{[]int{math.MaxInt - 2, 1, 0}, math.MaxInt - 1}, {[]int{math.MaxInt, 1}, math.MaxInt}, {[]int{1 << 62, 1 << 62, 1 << 62, 5}, math.MaxInt},
	} {
		if n := total(c.l...); n != c.want {
			t.Errorf("%v: it is %d, not %d", c.l, n, c.want)
		}
	}
}

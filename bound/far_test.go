package bound

import (
	"math"
	"testing"

	"parclose/conf"
)

func checkFar(t *testing.T, a conf.Part, want int) {
	t.Helper()
	if n := Far(a); n != want {
		t.Errorf("%+v: far is %d, not %d", a, n, want)
	}
}

func TestP1002FarOfNone(t *testing.T) {
	checkFar(t, conf.Part{}, 1)
	checkFar(t, conf.Part{Tasks: []conf.Task{}, Servers: []conf.Server{}, Donees: []int{30, math.MaxInt}, Acts: [3]uint8{9, 9, 9}}, 1)
	checkFar(t, of(1), 1)
	checkFar(t, with(conf.Part{}, 1), 1)
}

func TestP1002FarOfTasksIsByD(t *testing.T) {
	checkFar(t, conf.Part{Tasks: []conf.Task{task(30, 25)}}, 25)
	checkFar(t, conf.Part{Tasks: []conf.Task{task(1000, 1)}}, 1)
	checkFar(t, conf.Part{Tasks: []conf.Task{task(1000, 1000)}}, 1000)
	// Neither by V nor by Top.
	checkFar(t, conf.Part{Tasks: []conf.Task{highTask(30, 25, 3)}}, 25)
	checkFar(t, conf.Part{Tasks: []conf.Task{{Hi: true, T: 30, D: 25, V: 4, Lo: 2, Top: 3}}}, 25)
	checkFar(t, conf.Part{Tasks: []conf.Task{task(30, 12), task(900, 13), task(40, 11)}}, 13)
	checkFar(t, conf.Part{Tasks: []conf.Task{task(30, 14), task(900, 13), task(40, 11)}}, 14)
	checkFar(t, conf.Part{Tasks: []conf.Task{task(30, 12), task(900, 13), task(40, 15)}}, 15)
}

func TestP1002FarOfServersIsByT(t *testing.T) {
	checkFar(t, conf.Part{Servers: []conf.Server{{C: 2, T: 30}}}, 30)
	checkFar(t, conf.Part{Servers: []conf.Server{{Refill: true, C: 2, T: 30}}}, 30)
	checkFar(t, with(conf.Part{}, 12, 13, 11), 13)
	checkFar(t, with(conf.Part{}, 1000, 13, 11), 1000)
	checkFar(t, with(conf.Part{}, 12, 13, 14), 14)
}

func TestP1002FarOfBothIsTheGreatest(t *testing.T) {
	checkFar(t, with(example(), 24), 25)
	checkFar(t, with(example(), 25), 25)
	checkFar(t, with(example(), 26), 26)
	checkFar(t, with(example(), 3, 30), 30)
}

func TestP1002FarWithoutWhatIsNotRight(t *testing.T) {
	for _, k := range wrongTasks() {
		checkFar(t, conf.Part{Tasks: []conf.Task{k}}, 1)
		checkFar(t, conf.Part{Tasks: []conf.Task{k, task(30, 25)}}, 25)
		checkFar(t, conf.Part{Tasks: []conf.Task{task(30, 25), k}}, 25)
	}
	for _, s := range wrongServers() {
		checkFar(t, conf.Part{Servers: []conf.Server{s}}, 1)
		checkFar(t, conf.Part{Servers: []conf.Server{s, server(30)}}, 30)
		checkFar(t, conf.Part{Servers: []conf.Server{server(30), s}}, 30)
	}
	checkFar(t, conf.Part{Tasks: wrongTasks(), Servers: wrongServers()}, 1)
}

func TestP1002FarIsTheLeastThatNoneIsAbove(t *testing.T) {
	for _, a := range parts() {
		checkFar(t, a, farOf(a))
	}
	for seed := range uint64(2000) {
		_, a := drawn(seed)
		checkFar(t, a, farOf(a))
	}
}

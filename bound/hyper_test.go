package bound

import (
	"math"
	"testing"

	"parclose/conf"
)

func checkHyper(t *testing.T, frame int, a conf.Part, want int, ok bool) {
	t.Helper()
	if n, told := Hyper(frame, a); n != want || told != ok {
		t.Errorf("frame %d, %+v: the round is %d, %v; not %d, %v", frame, a, n, told, want, ok)
	}
}

func TestP1002Example(t *testing.T) {
	checkHyper(t, 20, example(), 60, true)
	if n := Far(example()); n != 25 {
		t.Errorf("far is %d, not 25", n)
	}
	if n, ok := Of(20, example()); n != 85 || !ok {
		t.Errorf("the bound is %d, %v; not 85, true", n, ok)
	}
	if p, n := All(conf.Config{Frame: 20, Parts: []conf.Part{example()}}); p != -1 || n != 85 {
		t.Errorf("of all it is %d, %d; not -1, 85", p, n)
	}
}

func TestP1002HyperOfAFrame(t *testing.T) {
	for _, n := range []int{math.MinInt, math.MinInt + 1, -1 << 62, -65536, -20, -1, 0} {
		checkHyper(t, n, conf.Part{}, 0, false)
		checkHyper(t, n, of(1), 0, false)
		checkHyper(t, n, example(), 0, false)
	}
	for _, n := range []int{1, 2, 7, 20, 256, 257, 65535, 65536} {
		checkHyper(t, n, conf.Part{}, n, true)
		checkHyper(t, n, of(1), n, true)
	}
	for _, n := range []int{65537, 65538, 131072, 1 << 32, 1<<32 + 1, 1 << 48, 1<<62 - 1, 1 << 62, 1<<62 + 1, math.MaxInt - 1, math.MaxInt} {
		checkHyper(t, n, conf.Part{}, 0, false)
		checkHyper(t, n, of(1), 0, false)
		checkHyper(t, n, example(), 0, false)
		checkHyper(t, n, of(999, 998, 997), 0, false)
	}
	checkHyper(t, 1, example(), 30, true)
}

func TestP1002HyperOfTasksAndServers(t *testing.T) {
	checkHyper(t, 20, with(of(30, 8), 50), 600, true)
	checkHyper(t, 20, of(30, 8), 120, true)
	checkHyper(t, 20, with(conf.Part{}, 50), 100, true)
	checkHyper(t, 20, with(conf.Part{}, 30, 8), 120, true)
	checkHyper(t, 20, conf.Part{Servers: []conf.Server{refilled(30)}}, 60, true)
	checkHyper(t, 20, conf.Part{Tasks: []conf.Task{highTask(30, 7, 2)}}, 60, true)
	checkHyper(t, 20, conf.Part{}, 20, true)
	checkHyper(t, 20, conf.Part{Tasks: []conf.Task{}, Servers: []conf.Server{}, Donees: []int{7, 30}, Acts: [3]uint8{7, 7, 7}}, 20, true)
}

func TestP1002HyperOfPeriods(t *testing.T) {
	checkHyper(t, 5, of(10, 100, 1000), 1000, true)
	checkHyper(t, 1000, of(100, 10, 5), 1000, true)
	checkHyper(t, 2, of(3, 5, 7, 11, 13), 30030, true)
	checkHyper(t, 4, with(of(9), 25), 900, true)
	checkHyper(t, 7, of(7, 7, 7), 7, true)
	checkHyper(t, 7, with(of(5, 5), 5, 5), 35, true)
	checkHyper(t, 6, of(4, 10, 15), 60, true)
	checkHyper(t, 1, of(6, 10, 15), 30, true)
	checkHyper(t, 8, with(of(12), 18), 72, true)
}

func TestP1002HyperOfJustMaxBound(t *testing.T) {
	checkHyper(t, 65536, of(1, 2, 4, 512), 65536, true)
	checkHyper(t, 65536, with(of(2), 4, 512), 65536, true)
	checkHyper(t, 65536, of(3), 0, false)
	checkHyper(t, 65535, of(3, 5, 17, 257), 65535, true)
	checkHyper(t, 65535, of(2), 0, false)
	checkHyper(t, 32768, of(2), 32768, true)
	checkHyper(t, 32768, of(3), 0, false)
	checkHyper(t, 1, of(257, 255), 65535, true)
	checkHyper(t, 2, of(257, 255), 0, false)
	checkHyper(t, 256, of(255), 65280, true)
	checkHyper(t, 256, of(257), 0, false)
	checkHyper(t, 256, with(conf.Part{}, 257), 0, false)
}

// What is more early on is not less again behind it, and what is more at the end alone is seen as well.
func TestP1002HyperAboveMaxBoundEarlyAndLate(t *testing.T) {
	checkHyper(t, 251, of(997, 1, 1, 1), 0, false)
	checkHyper(t, 251, with(of(1, 1, 251), 1, 997), 0, false)
	checkHyper(t, 251, with(of(1, 1, 251), 1, 251), 251, true)
	checkHyper(t, 1, of(1, 2, 4, 8, 16, 32, 243, 729), 23328, true)
	checkHyper(t, 1, with(of(1, 2, 4, 8, 16, 32, 243, 729), 2, 4, 3), 23328, true)
	checkHyper(t, 1, with(of(1, 2, 4, 8, 16, 32, 243, 729), 2, 4, 5), 0, false)
	checkHyper(t, 1, of(997, 991, 983, 977, 971, 967, 953, 947), 0, false)
	checkHyper(t, 1, with(of(997, 991, 983, 977, 971, 967), 953, 947, 941), 0, false)
	// Here an int that wraps round would come by a number that may be: 2 to the 64th, and more.
	checkHyper(t, 1<<32, of(512, 997, 991, 983, 977), 0, false)
	checkHyper(t, 1<<60, of(243, 625, 343), 0, false)
}

func TestP1002HyperWithoutWhatIsNotRight(t *testing.T) {
	for _, k := range wrongTasks() {
		checkHyper(t, 20, conf.Part{Tasks: []conf.Task{k}}, 20, true)
		checkHyper(t, 20, conf.Part{Tasks: []conf.Task{task(30, 25), k}}, 60, true)
		checkHyper(t, 20, conf.Part{Tasks: []conf.Task{k, task(30, 25)}}, 60, true)
		checkHyper(t, 0, conf.Part{Tasks: []conf.Task{k}}, 0, false)
	}
	for _, s := range wrongServers() {
		checkHyper(t, 20, conf.Part{Servers: []conf.Server{s}}, 20, true)
		checkHyper(t, 20, conf.Part{Servers: []conf.Server{server(30), s}}, 60, true)
		checkHyper(t, 20, conf.Part{Servers: []conf.Server{s, server(30)}}, 60, true)
	}
	checkHyper(t, 20, conf.Part{Tasks: wrongTasks(), Servers: wrongServers()}, 20, true)
}

func TestP1002HyperIsTheLeastNumber(t *testing.T) {
	for _, a := range parts()[:26] {
		for _, n := range edges {
			want, ok := round(n, a)
			checkHyper(t, n, a, want, ok)
		}
	}
	for _, a := range parts() {
		for _, n := range []int{math.MinInt, -7, 0, 1, 12, 100, 256, 65536, math.MaxInt} {
			want, ok := round(n, a)
			checkHyper(t, n, a, want, ok)
		}
	}
	for seed := range uint64(600) {
		n, a := drawn(seed)
		want, ok := round(n, a)
		checkHyper(t, n, a, want, ok)
	}
}

// Pairs of all small numbers, and of all about the greatest.
func TestP1002HyperOfTwo(t *testing.T) {
	for x := 1; x <= 48; x++ {
		for y := 1; y <= 48; y++ {
			want, ok := round(x, of(y))
			checkHyper(t, x, of(y), want, ok)
			checkHyper(t, 1, with(of(x), y), want, ok)
		}
	}
	for x := 250; x <= 256; x++ {
		for y := 250; y <= 270; y++ {
			want, ok := round(x, of(y))
			checkHyper(t, x, of(y), want, ok)
		}
	}
}

package bound

import (
	"math"
	"testing"

	"parclose/conf"
)

func checkOf(t *testing.T, frame int, a conf.Part, want int, ok bool) {
	t.Helper()
	if n, told := Of(frame, a); n != want || told != ok {
		t.Errorf("frame %d, %+v: the bound is %d, %v; not %d, %v", frame, a, n, told, want, ok)
	}
}

func TestP1002Of(t *testing.T) {
	checkOf(t, 20, conf.Part{}, 21, true)
	checkOf(t, 1, conf.Part{}, 2, true)
	checkOf(t, 20, with(example(), 12), 85, true)
	checkOf(t, 20, with(example(), 26), 780+26, true)
	checkOf(t, 7, of(7, 7, 7), 14, true)
	checkOf(t, 5, of(1000), 2000, true)
	checkOf(t, 20, conf.Part{Tasks: wrongTasks(), Servers: wrongServers()}, 21, true)
}

func TestP1002OfNoRound(t *testing.T) {
	for _, n := range []int{math.MinInt, -20, -1, 0, 65537, 1 << 62, math.MaxInt} {
		checkOf(t, n, conf.Part{}, 0, false)
		checkOf(t, n, example(), 0, false)
	}
	checkOf(t, 256, of(257), 0, false)
	checkOf(t, 1, of(997, 991, 983), 0, false)
	checkOf(t, 251, with(conf.Part{}, 997), 0, false)
}

func TestP1002OfJustMaxBound(t *testing.T) {
	checkOf(t, 65535, conf.Part{}, 65536, true)
	checkOf(t, 65536, conf.Part{}, 0, false)
	checkOf(t, 65535, of(1), 65536, true)
	checkOf(t, 65535, conf.Part{Tasks: []conf.Task{task(255, 1)}}, 65536, true)
	checkOf(t, 65535, conf.Part{Tasks: []conf.Task{task(255, 2)}}, 0, false)
	checkOf(t, 65534, conf.Part{Tasks: []conf.Task{task(2, 2)}}, 65536, true)
	checkOf(t, 65532, with(conf.Part{}, 4), 65536, true)
	checkOf(t, 65532, with(conf.Part{}, 4, 6), 0, false)
	for due, want := range map[int]int{1: 65001, 535: 65535, 536: 65536, 537: 0, 538: 0, 650: 0} {
		a := conf.Part{Tasks: []conf.Task{highTask(625, 1, 1), highTask(650, due, 1)}}
		checkHyper(t, 200, a, 65000, true)
		checkOf(t, 200, a, want, want > 0)
	}
	// The same by frames: 65520 and 16, and the greatest multiples of a server's period.
	checkOf(t, 65520, with(conf.Part{}, 16), 65536, true)
	checkOf(t, 65520, with(conf.Part{}, 15, 16), 65536, true)
	checkOf(t, 65520, with(conf.Part{}, 15, 18), 0, false)
}

func TestP1002OfIsRoundAndFar(t *testing.T) {
	for _, a := range parts()[:26] {
		for _, n := range edges {
			want, ok := boundOf(n, a)
			checkOf(t, n, a, want, ok)
		}
	}
	for seed := range uint64(600) {
		n, a := drawn(seed)
		want, ok := boundOf(n, a)
		checkOf(t, n, a, want, ok)
	}
	for _, a := range []conf.Part{of(1), of(5), of(16), of(255), with(conf.Part{}, 128), with(of(3), 4)} {
		for n := 65500; n <= 65540; n++ {
			want, ok := boundOf(n, a)
			checkOf(t, n, a, want, ok)
		}
	}
}

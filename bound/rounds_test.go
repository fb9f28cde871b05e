package bound

import (
	"math/rand/v2"
	"testing"

	"parclose/conf"
	"parclose/demand"
	"parclose/frame"
	"parclose/supply"
)

// table: windows of a few partitions, with gaps, in a frame of so many ticks.
func table(t *testing.T, r *rand.Rand, ticks int) *frame.Table {
	t.Helper()
	var l []conf.Window
	for at := 0; at < ticks && len(l) < 32; {
		length := min(1+r.IntN(12), ticks-at)
		if r.IntN(4) > 0 {
			l = append(l, conf.Window{At: at, Len: length, Part: r.IntN(3)})
		}
		at += length
	}
	made := frame.New(ticks, r.IntN(3), l...)
	if made == nil {
		t.Fatalf("no table of a frame of %d, %v", ticks, l)
	}
	return made
}

// timesFrom: from far on: all of some ticks, and later ones, up to where demands are cut.
func timesFrom(r *rand.Rand, from, step int) []int {
	var l []int
	for n := range 120 {
		l = append(l, from+n)
	}
	for n := range 20 {
		l = append(l, from+step+n, from+r.IntN(5*step), from+r.IntN(1<<39), 1<<40-step-n)
	}
	return l
}

// checkRound: is what is asked for and offered of a round more more by always the same?
func checkRound(t *testing.T, r *rand.Rand, ticks int, a conf.Part) {
	t.Helper()
	step, ok := Hyper(ticks, a)
	if !ok {
		return
	}
	offered := make([]*supply.Supply, 3)
	made := table(t, r, ticks)
	for p := range offered {
		offered[p] = supply.Of(made, p)
	}
	for _, n := range timesFrom(r, Far(a), step) {
		if more, want := demand.Low(a, n+step)-demand.Low(a, n), demand.Rate(step, a, false); more != want {
			t.Errorf("frame %d, %+v: of %d and a round of %d the low demand is %d more, not %d", ticks, a, n, step, more, want)
		}
		if more, want := demand.High(a, n+step)-demand.High(a, n), demand.Rate(step, a, true); more != want {
			t.Errorf("frame %d, %+v: of %d and a round of %d the high demand is %d more, not %d", ticks, a, n, step, more, want)
		}
		for p, s := range offered {
			open, all := s.Rate()
			if more, want := s.Least(n+step)-s.Least(n), step/all*open; more != want || step%all != 0 {
				t.Errorf("frame %d, partition %d: of %d and a round of %d the supply is %d more, not %d", ticks, p, n, step, more, want)
			}
		}
	}
}

func TestP1003ARoundMore(t *testing.T) {
	r := rand.New(rand.NewPCG(4, 10))
	for _, a := range parts() {
		for _, ticks := range []int{1, 10, 20, 7, 256, 1 + r.IntN(256)} {
			checkRound(t, r, ticks, a)
		}
	}
	for seed := range uint64(150) {
		ticks, a := drawn(seed)
		checkRound(t, r, ticks, a)
	}
}

// Not ahead of far: a server that is filled again asks for nothing of less than its T, so that a round more than these is more by more.
func TestP1003NotAheadOfFar(t *testing.T) {
	a := conf.Part{Servers: []conf.Server{{Refill: true, C: 3, T: 10}}}
	step, _ := Hyper(5, a)
	from := Far(a)
	if step != 10 || from != 10 {
		t.Fatalf("the round is %d, far %d", step, from)
	}
	if more := demand.Low(a, from-1+step) - demand.Low(a, from-1); more != 2*demand.Rate(step, a, false) {
		t.Errorf("of a round more than a tick less than far it is %d more", more)
	}
	if more := demand.Low(a, from+step) - demand.Low(a, from); more != demand.Rate(step, a, false) {
		t.Errorf("of a round more than far it is %d more", more)
	}
}

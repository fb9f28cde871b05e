package admit

import (
	"math/rand/v2"
	"testing"

	"parclose/api"
	"parclose/conf"
)

// neverBreaks: it does at no number of ticks up to far beyond the bound, counted one by one, nor at later ones, asked here and there.
func neverBreaks(t *testing.T, r *rand.Rand, c conf.Config, p int, high bool) {
	t.Helper()
	bound := boundOf(c, p)
	if bound == 0 {
		t.Fatalf("%+v: no bound of partition %d", c, p)
	}
	if n, ok := firstBelow(slacks(c, p, tried(bound), high)); ok {
		t.Errorf("%+v: partition %d, high %v: it breaks at %d", c, p, high, n)
	}
	later := []int{1 << 40, 1<<40 - 1, 1 << 32}
	for range 30 {
		later = append(later, r.IntN(9*bound), r.IntN(1<<24), r.IntN(1<<40))
	}
	for _, n := range later {
		if slack, ok := Slack(c, p, n, high); slack < 0 || !ok {
			t.Errorf("%+v: partition %d, high %v: the slack of %d is %d, %v", c, p, high, n, slack, ok)
		}
	}
}

// breaksFirstAt: it does there, and at no smaller number.
func breaksFirstAt(t *testing.T, c conf.Config, v Verdict) {
	t.Helper()
	counted := slacks(c, v.Part, v.T, v.High)
	for n, slack := range counted {
		if n < v.T && slack < 0 || n == v.T && slack >= 0 {
			t.Errorf("%+v: of %+v the slack of %d is %d", c, v, n, slack)
		}
	}
	if slack, ok := Slack(c, v.Part, v.T, v.High); slack != counted[v.T] || !ok {
		t.Errorf("%+v: of %+v the slack is told to be %d, %v", c, v, slack, ok)
	}
	if n, ok := Phase(c, v.Part, v.High); n != v.T || !ok {
		t.Errorf("%+v: of %+v the phase breaks at %d, %v", c, v, n, ok)
	}
}

// justSo: is a verdict as the phases are?
func justSo(t *testing.T, r *rand.Rand, c conf.Config, v Verdict) {
	t.Helper()
	for p := range c.Parts {
		for _, high := range modes {
			if v.Kind == Reject && p == v.Part && high == v.High {
				breaksFirstAt(t, c, v)
				return
			}
			neverBreaks(t, r, c, p, high)
		}
	}
}

func TestP1104JustSo(t *testing.T) {
	r := rand.New(rand.NewPCG(2, 11))
	kinds := map[int]int{}
	for _, c := range systems(t, 1200) {
		v, err := Judge(c)
		if err != api.OK {
			t.Fatalf("%+v: error %d", c, err)
		}
		kinds[v.Kind]++
		if v.Kind != Large {
			justSo(t, r, c, v)
		}
	}
	if kinds[Admit] < 100 || kinds[Reject] < 100 {
		t.Errorf("so many of each kind were judged: %v", kinds)
	}
}

// Systems that go just so: one tick's work more of any task or server in them, and they break.
func TestP1104OneMoreBreaks(t *testing.T) {
	r := rand.New(rand.NewPCG(3, 11))
	full := alone(60, 60, of(low(20, 20, 5), low(30, 30, 9), low(60, 60, 21)))
	full.Parts[0].Servers = []conf.Server{{C: 1, T: 10}}
	half := shared(20, of(low(20, 20, 10)), of(low(40, 40, 8), high(40, 40, 20, 10, 10), low(80, 80, 4)))
	for _, c := range []conf.Config{full, half, alone(10, 4, of(low(10, 10, 4))), alone(1, 1, of(low(255, 255, 1), low(256, 256, 254)))} {
		v, _ := Judge(c)
		if v != (Verdict{}) {
			t.Errorf("%+v: the verdict is %+v", c, v)
		}
		justSo(t, r, c, v)
		for p, a := range c.Parts {
			for i := range a.Tasks {
				a.Tasks[i].Lo++
				a.Tasks[i].Top++
				if v, _ := Judge(c); v.Kind != Reject || v.Part != p {
					t.Errorf("%+v: the verdict is %+v", c, v)
				} else {
					justSo(t, r, c, v)
				}
				a.Tasks[i].Lo--
				a.Tasks[i].Top--
			}
		}
	}
}

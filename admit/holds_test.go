package admit

import (
	"testing"

	"parclose/api"
	"parclose/conf"
)

func checkHolds(t *testing.T, c conf.Config, v Verdict, want bool) {
	t.Helper()
	if ok := Holds(c, v); ok != want {
		t.Errorf("%+v: does %+v hold? %v", c, v, ok)
	}
}

// others: verdicts that differ from one in one field.
func others(v Verdict) []Verdict {
	var l []Verdict
	for _, n := range append([]int{v.Kind + 1, v.Kind - 1, v.Part + 1, v.Part - 1, v.T + 1, v.T - 1}, edges...) {
		kind, part, ticks := v, v, v
		kind.Kind, part.Part, ticks.T = n, n, n
		for _, other := range []Verdict{kind, part, ticks} {
			if other != v {
				l = append(l, other)
			}
		}
	}
	mode := v
	mode.High = !v.High
	return append(l, mode)
}

func TestP1103HoldsWhatIsSo(t *testing.T) {
	checkHolds(t, example(), Verdict{Kind: 1, T: 10}, true)
	checkHolds(t, shared(20, light(), highBreaks()), Verdict{Kind: 1, Part: 1, High: true, T: 20}, true)
	checkHolds(t, shared(20, light(), none()), Verdict{Kind: 2, Part: 1}, true)
	checkHolds(t, shared(20, light(), light()), Verdict{}, true)
	checkHolds(t, late(), Verdict{Kind: 1, T: 65280}, true)
	// True of the system, but not what is told of it.
	checkHolds(t, shared(20, bothBreak(), light()), Verdict{Kind: 1, Part: 0, High: true, T: 0}, false)
	checkHolds(t, shared(20, lowBreaks(), lowBreaks()), Verdict{Kind: 1, Part: 1, High: false, T: 20}, false)
	checkHolds(t, shared(20, none(), none()), Verdict{Kind: 2, Part: 1}, false)
	checkHolds(t, example(), Verdict{Kind: 1, T: 20}, false)
}

func TestP1103HoldsWhatIsTold(t *testing.T) {
	for _, c := range systems(t, 20) {
		v, err := Judge(c)
		if err != api.OK {
			t.Errorf("%+v: error %d", c, err)
		}
		checkHolds(t, c, v, true)
		for _, other := range others(v) {
			checkHolds(t, c, other, false)
		}
	}
}

// Beside an error nothing holds, be it what is told beside it.
func TestP1103HoldsNothingOfWhatMayNotBe(t *testing.T) {
	for _, w := range wrongs() {
		for _, v := range []Verdict{{}, {Kind: 1}, {Kind: 1, T: 10}, {Kind: 1, T: 20}, {Kind: 2}, {Kind: 2, Part: 1}} {
			checkHolds(t, w.c, v, false)
		}
		for _, v := range others(Verdict{}) {
			checkHolds(t, w.c, v, false)
		}
	}
	checkHolds(t, conf.Config{}, Verdict{}, false)
	checkHolds(t, conf.Config{Frame: 10}, Verdict{}, false)
}

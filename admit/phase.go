package admit

import (
	"parclose/bound"
	"parclose/conf"
	"parclose/demand"
	"parclose/supply"
	"parclose/valid"
)

// mostTicks: a slack is told of so many ticks; of more as of these.
const mostTicks = 1 << 40

// phase: of a partition of a system, in one mode.
type phase struct {
	system conf.Config
	part   int
	high   bool
	// slack: of any number of ticks.
	slack func(t int) int
}

// phases: those of a system that may be, partition by partition, the low one first.
func phases(c conf.Config) []phase {
	table := valid.Table(c)
	var l []phase
	for p := range c.Parts {
		s := supply.Of(table, p)
		l = append(l, newPhase(c, p, false, s), newPhase(c, p, true, s))
	}
	return l
}

// phaseOf: a single one; false, if the system may not be, or has no such partition.
func phaseOf(c conf.Config, p int, high bool) (phase, bool) {
	table := valid.Table(c)
	if table == nil || !c.Has(p) {
		return phase{}, false
	}
	return newPhase(c, p, high, supply.Of(table, p)), true
}

func newPhase(c conf.Config, p int, high bool, s *supply.Supply) phase {
	asked := demand.Low
	if high {
		asked = demand.High
	}
	slack := func(t int) int {
		t = min(max(t, 0), mostTicks)
		return s.Least(t) - asked(c.Parts[p], t)
	}
	return phase{c, p, high, slack}
}

// judged: the verdict on a system of these phases, all of which have a bound.
func judged(l ...phase) Verdict {
	for _, f := range l {
		if t, ok := f.breaks(); ok {
			return Verdict{Kind: Reject, Part: f.part, High: f.high, T: t}
		}
	}
	return Verdict{Kind: Admit}
}

// breaks: the least number of ticks at which the phase breaks; 0, false, if it never does, or there is no bound.
func (f phase) breaks() (int, bool) {
	for _, t := range f.turns() {
		if f.slack(t) < 0 {
			return t, true
		}
	}
	return 0, false
}

// turns: the numbers of ticks, rising, at one of which the phase breaks first, if it ever does; none if there is no bound.
//
// A supply never falls, so this is where the demand has just risen; or at 0, as a high job may ask for what low mode would have left undone. And none of them is behind the bound: what is asked for in a round from 0 on is at least what each later round asks for more, and if the round's supply is enough for that, no later one's is too little.
func (f phase) turns() []int {
	a := f.system.Parts[f.part]
	most, ok := bound.Of(f.system.Frame, a)
	if !ok {
		return nil
	}
	return append([]int{0}, demand.Steps(a, most, f.high)...)
}

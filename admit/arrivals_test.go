package admit

import (
	"math/rand/v2"
	"testing"

	"parclose/conf"
)

// job: of a task, by its number.
type job struct{ task, arrives, due, work int }

// arrivals: jobs of all tasks, from a tick on, each as far behind the one ahead as it has to be, that are due by another tick.
func arrivals(a conf.Part, from, to int) []job {
	var l []job
	for i, k := range a.Tasks {
		for at := from; at+k.D <= to; at += k.T {
			l = append(l, job{i, at, at + k.D, k.Lo})
		}
	}
	return l
}

// farApart: does each job arrive at least T behind the one ahead of it, and is due D behind that?
func farApart(a conf.Part, l []job) bool {
	last := map[int]job{}
	for _, j := range l {
		k := a.Tasks[j.task]
		ahead, ok := last[j.task]
		if ok && j.arrives < ahead.arrives+k.T || j.due != j.arrives+k.D || j.work != k.Lo {
			return false
		}
		last[j.task] = j
	}
	return true
}

// openWithin: how many ticks are open to p from from on, up to to.
func openWithin(c conf.Config, p, from, to int) int {
	open, n := openTo(c, p), 0
	for tick := from; tick < to; tick++ {
		if open[tick%len(open)] {
			n++
		}
	}
	return n
}

// noWay: from one of a frame's ticks on there are arrivals whose work due in so many ticks is more than what is open in them.
func noWay(c conf.Config, p, ticks int) bool {
	a := c.Parts[p]
	for from := range c.Frame {
		l, work := arrivals(a, from, from+ticks), 0
		for _, j := range l {
			work += j.work
		}
		if farApart(a, l) && work > openWithin(c, p, from, from+ticks) {
			return true
		}
	}
	return false
}

// misses: run one that is due first ahead of the others, in each open tick; is one not done when it is due?
func misses(c conf.Config, p, from, ticks int) bool {
	open, l := openTo(c, p), arrivals(c.Parts[p], from, from+ticks)
	for tick := from; tick <= from+ticks; tick++ {
		first := -1
		for i, j := range l {
			if j.work > 0 && j.due <= tick {
				return true
			}
			if j.work > 0 && j.arrives <= tick && (first < 0 || j.due < l[first].due) {
				first = i
			}
		}
		if first >= 0 && open[tick%len(open)] {
			l[first].work--
		}
	}
	return false
}

func missesSomewhere(c conf.Config, p, ticks int) bool {
	for from := range c.Frame {
		if misses(c, p, from, ticks) {
			return true
		}
	}
	return false
}

// lowSystems: systems of low tasks alone.
func lowSystems() []conf.Config {
	l := []conf.Config{
		example(), behindLow(), alone(10, 0, of(low(10, 10, 1))), alone(10, 9, of(low(1000, 1, 1))), alone(1, 1, of(low(5, 5, 3), low(7, 7, 3))), late(),
		shared(20, lowBreaks(), light()), shared(20, of(low(40, 7, 1)), lowBreaks()), shared(20, of(low(20, 8, 1), low(30, 25, 10)), conf.Part{}),
	}
	r := rand.New(rand.NewPCG(4, 11))
	for seed := range uint64(1500) {
		c := drawn(seed + 1<<20)
		for p := range c.Parts {
			c.Parts[p].Servers = nil
			for i, k := range c.Parts[p].Tasks {
				due := k.T - r.IntN(2)*r.IntN(k.T)
				c.Parts[p].Tasks[i] = low(k.T, due, min(due, k.Lo))
			}
		}
		l = append(l, c)
	}
	return l
}

// behindLow: it breaks at a number that is no frame's.
func behindLow() conf.Config { return alone(12, 5, of(low(24, 17, 3), low(36, 30, 6))) }

func TestP1105NoWay(t *testing.T) {
	met, runs := 0, 0
	for _, c := range lowSystems() {
		v, _ := Judge(c)
		if v.Kind != Reject {
			continue
		}
		met++
		if v.High || !noWay(c, v.Part, v.T) {
			t.Errorf("%+v: %+v, but what may arrive may be done", c, v)
		}
		// And so whoever runs when, one is missed.
		if v.T < 1000 {
			runs++
			if !missesSomewhere(c, v.Part, v.T) {
				t.Errorf("%+v: %+v, but none is missed", c, v)
			}
		}
	}
	if met < 300 || runs < 300 {
		t.Errorf("just %d systems were rejected, %d run", met, runs)
	}
}

// The other way round: of what is admitted all is done in time, from each tick of a frame on, as long as all arrive together.
func TestP1105ThereIsAWay(t *testing.T) {
	met := 0
	for _, c := range lowSystems() {
		v, _ := Judge(c)
		if v.Kind != Admit {
			continue
		}
		met++
		for p := range c.Parts {
			if ticks := min(boundOf(c, p), 400); missesSomewhere(c, p, ticks) || noWay(c, p, ticks) {
				t.Errorf("%+v: admitted, but one of %d may be missed", c, p)
			}
		}
	}
	if met < 100 {
		t.Errorf("just %d systems were admitted", met)
	}
}

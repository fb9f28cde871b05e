package kernel_test

import (
	"math/rand/v2"
	"testing"

	"parclose/admit"
	"parclose/api"
	"parclose/conf"
	"parclose/journal"
	"parclose/kernel"
)

// storm: what arrives in a run that is to be near to what there may be at most.
type storm struct {
	r *rand.Rand
	c conf.Config
	// often: of a hundred jobs that may come, how many do. kind: what work they have. orders: are there halts and starts?
	often, kind int
	orders      bool
	// calm: up to then nothing comes, so that what comes then may come at once.
	calm int
}

func newStorm(r *rand.Rand, c conf.Config, from int) *storm {
	return &storm{r: r, c: c, often: []int{100, 100, 50, 10}[r.IntN(4)], kind: r.IntN(6), orders: r.IntN(3) == 0, calm: from + r.IntN(3*c.Frame)}
}

// work: of a task's job; most often all that there may be, at times more.
func (s *storm) work(x conf.Task) int {
	switch s.kind {
	case 0:
		return x.Lo
	case 1:
		return x.Top
	case 2:
		return 1 + s.r.IntN(x.Lo)
	case 3:
		return 1 + s.r.IntN(x.Top)
	case 4:
		return []int{x.Lo, x.Lo, x.Lo, x.Lo, x.Lo, x.Top}[s.r.IntN(6)]
	}
	return []int{x.Lo, x.Top, x.Top, x.Top + 1 + s.r.IntN(3)}[s.r.IntN(4)]
}

func (s *storm) items(now int) []kernel.Item {
	var l []kernel.Item
	if now < s.calm {
		return nil
	}
	for p, a := range s.c.Parts {
		for task, x := range a.Tasks {
			if s.r.IntN(100) < s.often {
				l = append(l, arrive(p, task, s.work(x), op(4, s.r.IntN(3), 1+s.r.IntN(4))))
			}
		}
		for server, x := range a.Servers {
			if s.r.IntN(100) < s.often {
				l = append(l, ask(p, server, 1+s.r.IntN(3*x.C)))
			}
		}
		if s.orders && s.r.IntN(60) == 0 {
			l = append(l, start(p))
			if s.r.IntN(3) == 0 {
				l = append(l, halt(p))
			}
		}
	}
	if s.r.IntN(120) == 0 {
		s.calm = now + s.r.IntN(150)
	}
	return l[:min(len(l), maxItems)]
}

// outcome: how a job went, as a log tells it: at which tick it ended (none: -1), at which one its partition was halted or started, or rose, first.
type outcome struct{ ended, broken, rose int }

// follow: what came of the job that is accepted at a place of a log.
func follow(l []journal.Entry, at int) outcome {
	o := outcome{-1, -1, -1}
	for _, e := range l[at+1:] {
		switch {
		case e.Kind == journal.Ended && e.A == l[at].A:
			o.ended = e.Tick
			return o
		case e.Kind == journal.Order, e.Kind == journal.Fault && e.B != note:
			o.broken = e.Tick
			return o
		case e.Kind == journal.Rose && o.rose < 0:
			o.rose = e.Tick
		}
	}
	return o
}

// tally: how many jobs were held to their time, in which way, and how many of these ended at the very last tick.
type tally struct{ top, lo, lastTop, lastLo, rose, behindRise, missed int }

// heed holds a log to what was promised of each job in it. now: the tick that comes.
func (n *tally) heed(t *testing.T, a conf.Part, l []journal.Entry, now int) {
	t.Helper()
	for at, e := range l {
		if e.Kind == journal.Missed || e.Kind == journal.Fault && e.A == missed {
			t.Fatalf("of %v: a job is missed: %v", a, l[max(at-20, 0):at+1])
		}
		if e.Kind == journal.Rose {
			n.rose++
		}
		if e.Kind != journal.Accept {
			continue
		}
		x, o := a.Tasks[e.A], follow(l, at)
		by := e.Tick + x.D
		over := by > now || o.broken >= 0 && o.broken < by
		switch {
		case over:
		case x.Hi && e.B <= x.Top:
			n.top++
			if o.ended == by-1 {
				n.lastTop++
			}
			if o.rose >= 0 {
				n.behindRise++
			}
			n.inTime(t, a, e, o, by)
		case e.B <= x.Lo && (o.rose < 0 || o.rose >= by):
			n.lo++
			if o.ended == by-1 {
				n.lastLo++
			}
			n.inTime(t, a, e, o, by)
		}
	}
}

func (n *tally) inTime(t *testing.T, a conf.Part, e journal.Entry, o outcome, by int) {
	t.Helper()
	if o.ended < 0 || o.ended >= by {
		t.Fatalf("of %v: %s: by %d: %v", a, told(e), by, o)
	}
}

// slack: the least that is left of a phase's supply, of some ticks.
func slack(c conf.Config, p int, inHigh bool) int {
	least := 1 << 30
	for n := 1; n <= 200; n++ {
		if s, ok := admit.Slack(c, p, n, inHigh); ok && n >= c.Frame {
			least = min(least, s)
		}
	}
	return least
}

func TestP2506EachJobEndsInTime(t *testing.T) {
	var n tally
	tight := [2]int{}
	for seed := range uint64(900) {
		r := rand.New(rand.NewPCG(seed, 2506))
		c := drawn(r)
		if r.IntN(2) == 0 {
			// Where nobody gives, each has just what it is offered.
			for p := range c.Parts {
				c.Parts[p].Donees = nil
			}
		}
		for p := range c.Parts {
			for mode, inHigh := range []bool{false, true} {
				if slack(c, p, inHigh) == 0 {
					tight[mode]++
				}
			}
		}
		for range 3 {
			from := []int{0, r.IntN(1000), maxTick - 400}[r.IntN(3)]
			k, s := booted(t, c, from), newStorm(r, c, from)
			for now := from; now < from+390; now++ {
				if _, err := k.Step(s.items(now)...); err != api.OK {
					t.Fatal(err)
				}
			}
			for p, a := range c.Parts {
				n.heed(t, a, k.Log(p), k.Tick())
				if m := k.Faults(p, missed); m != 0 {
					t.Fatalf("Faults: %d", m)
				}
			}
		}
	}
	// There is nothing in it, if they are never near to it.
	if tight[0] < 300 || tight[1] < 100 || n.top < 20000 || n.lo < 20000 || n.lastTop < 100 || n.lastLo < 300 || n.rose < 3000 || n.behindRise < 3000 {
		t.Errorf("of %v tight phases: %+v", tight, n)
	}
}

// And what does not boot may miss some: the same rows tell that.
func TestP2506WhatDoesNotBootMisses(t *testing.T) {
	misses := 0
	for seed := range uint64(300) {
		r := rand.New(rand.NewPCG(seed, 2507))
		c := crammed(r)
		k, s := kernel.Lay(c, 0), newStorm(r, c, 0)
		for now := range 200 {
			k.Step(s.items(now)...)
		}
		for p := range c.Parts {
			if k.Faults(p, missed) > 0 {
				misses++
				break
			}
		}
	}
	if misses < 150 {
		t.Errorf("just %d of 300", misses)
	}
}

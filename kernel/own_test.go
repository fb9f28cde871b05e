package kernel_test

import (
	"math/rand/v2"
	"testing"

	"parclose/api"
	"parclose/conf"
	"parclose/gsched"
	"parclose/journal"
	"parclose/kernel"
)

// owner: whose window a tick is in, behind its margin; false, if it is in none.
func owner(c conf.Config, tick int) (int, bool) {
	at := tick % c.Frame
	for _, w := range c.Windows {
		if w.At+c.Margin <= at && at < w.At+w.Len {
			return w.Part, true
		}
	}
	return 0, false
}

// has: has p jobs at a tick that was stepped? Told by those that were there ahead of it, and by what it logged since then.
func has(jobs int, since []journal.Entry) bool {
	for _, e := range since {
		switch e.Kind {
		case journal.Accept:
			jobs++
		case journal.Missed:
			jobs--
		case journal.Order:
			jobs = 0
		case journal.Ran:
			// Behind that it is what came of the tick.
			return jobs > 0
		}
	}
	return jobs > 0
}

// A partition with jobs runs in its open ticks: with what, it is not asked here.
func TestP2507ItRunsInItsOwnTicks(t *testing.T) {
	runs, idle, givers := 0, 0, 0
	for seed := range uint64(800) {
		r := rand.New(rand.NewPCG(seed, 2508))
		c := drawn(r)
		from := drawnStart(r)
		k, d := booted(t, c, from), newDrawing(r, c)
		for range 150 {
			tick := k.Tick()
			p, open := owner(c, tick)
			if !open {
				k.Step(d.items()...)
				continue
			}
			jobs, behind := len(k.Jobs(p)), len(k.Log(p))
			told, err := k.Step(d.items()...)
			if err != api.OK {
				t.Fatal(err)
			}
			since := k.Log(p)[behind:]
			switch {
			case !has(jobs, since):
				idle++
				if told.Choice.Kind == given {
					givers++
				}
			case told.Choice != gsched.Choice{Kind: own, Owner: p, Runner: p}:
				t.Fatalf("of %v: at %d: %v, and %d has jobs: %v", c, tick, told, p, since)
			default:
				runs++
				n := told.What.N
				if told.What.Server {
					n += 100
				}
				if at := ranAt(since); at < 0 || since[at] != seen(tick, journal.Ran, n, p) {
					t.Fatalf("of %v: at %d: %v, and %d logs %v", c, tick, told, p, since)
				}
			}
		}
	}
	if runs < 10000 || idle < 10000 || givers < 500 {
		t.Errorf("just %d runs, %d idle ticks, %d of them given", runs, idle, givers)
	}
}

// ranAt: where a Ran is; -1, if there is none.
func ranAt(l []journal.Entry) int {
	for at, e := range l {
		if e.Kind == journal.Ran {
			return at
		}
	}
	return -1
}

// It does so however much the others have to do, and to whom they give.
func TestP2507WhateverTheOthersDo(t *testing.T) {
	c := whole()
	for p := range c.Parts {
		k := booted(t, c, 0)
		for tick := range 640 {
			var l []kernel.Item
			for q, a := range c.Parts {
				for task, x := range a.Tasks {
					if q != p {
						l = append(l, arrive(q, task, x.Top))
					}
				}
			}
			if tick%640 == 3 {
				l = append(l, arrive(p, 3, 1), arrive(p, 5, 3))
			}
			jobs := len(k.Jobs(p))
			if tick == 3 {
				jobs = 2
			}
			told, err := k.Step(l...)
			if q, open := owner(c, tick); err != api.OK || open && q == p && jobs > 0 && told.Choice.Runner != p {
				t.Fatalf("at %d: %v, %d, and %d has jobs", tick, told, err, p)
			}
		}
		if n := k.Spent(own, p); n < 3 {
			t.Errorf("of %d: %d ticks", p, n)
		}
	}
}

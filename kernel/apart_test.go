package kernel_test

import (
	"math/rand/v2"
	"slices"
	"testing"

	"parclose/api"
	"parclose/conf"
	"parclose/flow"
	"parclose/journal"
	"parclose/kernel"
)

// among: those items that are of one of these partitions, and the marks, in their order.
func among(l []kernel.Item, of []int) []kernel.Item {
	return slices.DeleteFunc(slices.Clone(l), func(x kernel.Item) bool { return x.Kind != 4 && !slices.Contains(of, x.Part) })
}

// mixed: the items of one row that are among, and those of another one that are not, in between.
func mixed(r *rand.Rand, l, other []kernel.Item, of []int) []kernel.Item {
	row := among(l, of)
	for _, x := range other {
		// Not its marks, as those are seen by all.
		if x.Kind != 4 && !slices.Contains(of, x.Part) && len(row) < maxItems {
			row = slices.Insert(row, r.IntN(len(row)+1), x)
		}
	}
	return row
}

// thinned: a system with fewer edges in it, so that more partitions do not lead into each other. What they are offered is the same.
func thinned(r *rand.Rand, c conf.Config) conf.Config {
	c = conf.Clone(c)
	for p, a := range c.Parts {
		c.Parts[p].Donees = a.Donees[:min(len(a.Donees), r.IntN(3))]
	}
	c.Chans = c.Chans[:min(len(c.Chans), r.IntN(4))]
	return c
}

// Pairs of rows that differ just in the items of partitions that do not lead into one.
func TestP2508WhatItLogsHangsOnThoseThatLeadThere(t *testing.T) {
	pairs, differ, logged := 0, 0, 0
	for seed := range uint64(1200) {
		r := rand.New(rand.NewPCG(seed, 2510))
		c := thinned(r, drawn(r))
		p := r.IntN(len(c.Parts))
		into := flow.Into(c, p)
		if len(into) == len(c.Parts) {
			continue
		}
		from := drawnStart(r)
		d, without := newDrawing(r, c), r.IntN(3) == 0
		a, b := booted(t, c, from), booted(t, c, from)
		for range 150 {
			l, other := d.items(), d.items()
			if without {
				other = nil
			}
			a.Step(l...)
			b.Step(mixed(r, l, other, into)...)
		}
		pairs++
		for q := range c.Parts {
			same := journal.Same(a.Log(q), b.Log(q))
			if slices.Contains(into, q) && !same {
				t.Fatalf("of %v: into %d leads %v, and the log of %d: %s", c, p, into, q, firstOther(a.Log(q), b.Log(q)))
			}
			if !same {
				differ++
			}
		}
		logged += len(a.Log(p))
	}
	if pairs < 300 || differ < 300 || logged < 10000 {
		t.Errorf("just %d pairs, %d other logs, %d entries", pairs, differ, logged)
	}
}

// And where an edge leads, something may be learnt: the same rows, of one partition more, tell that.
func TestP2508WhatItLogsMayHangOnThoseThatLeadThere(t *testing.T) {
	differ := 0
	for seed := range uint64(600) {
		r := rand.New(rand.NewPCG(seed, 2511))
		c := drawn(r)
		p := r.IntN(len(c.Parts))
		into := flow.Into(c, p)
		if len(into) < 2 {
			continue
		}
		a, b, d := booted(t, c, 0), booted(t, c, 0), newDrawing(r, c)
		for range 100 {
			l := d.items()
			a.Step(l...)
			b.Step(among(l, []int{p})...)
		}
		if !journal.Same(a.Log(p), b.Log(p)) {
			differ++
		}
	}
	if differ < 30 {
		t.Errorf("just %d logs", differ)
	}
}

// Of a channel: what the reader does, or whether it is up, is not seen by the writer.
func TestP2508AWriterSeesNothing(t *testing.T) {
	c := talking([3]uint8{again, again, again})
	if into := flow.Into(c, 0); !slices.Equal(into, []int{0}) {
		t.Fatal(into)
	}
	write := items(arrive(0, 0, 9, op(2, 0, 1), op(2, 1, 2), op(2, 0, 3), op(2, 0, 4), op(2, 0, 5), op(3, 0, 0), op(2, 1, 6), op(4, 0, 1), op(1, 0, 0)))
	quiet := booted(t, c, 0)
	for _, l := range [][]kernel.Item{{arrive(1, 0, 9, op(3, 0, 0), op(3, 1, 0), op(3, 0, 0), op(99, 0, 0))}, {halt(1)}, {halt(1), start(1), ask(1, 0, 5), halt(2)}, {ask(1, 0, 1), ask(2, 1, 3), arrive(2, 0, 15)}} {
		k := booted(t, c, 0)
		for tick := range 200 {
			row := slices.Clone(write)
			if quiet.Tick() == tick {
				quiet.Step(row...)
			}
			if _, err := k.Step(append(row, l...)...); err != api.OK {
				t.Fatal(err)
			}
		}
		if !journal.Same(k.Log(0), quiet.Log(0)) {
			t.Errorf("behind %v: %s", l, firstOther(k.Log(0), quiet.Log(0)))
		}
		if journal.Same(k.Log(1), quiet.Log(1)) {
			t.Errorf("behind %v: 1 logs the same", l)
		}
	}
}

// Of a partition that gets ticks: which of the others are ready that do not give to it, and stand behind it, is not seen.
func TestP2508ADoneeSeesNothingOfThoseBehindIt(t *testing.T) {
	a := conf.Part{Tasks: []conf.Task{low(60, 60, 3)}}
	c := conf.Config{Frame: 4, Windows: []conf.Window{{At: 0, Len: 1, Part: 0}, {At: 1, Len: 1, Part: 1}, {At: 2, Len: 1, Part: 2}, {At: 3, Len: 1, Part: 3}}, Parts: []conf.Part{a, a, a, a}}
	c.Parts[0].Donees = []int{1, 2}
	c.Parts[3].Donees = []int{2}
	if into := flow.Into(c, 1); !slices.Equal(into, []int{0, 1}) {
		t.Fatal(into)
	}
	rows := [][]kernel.Item{nil, {arrive(2, 0, 3)}, {arrive(3, 0, 3)}, {arrive(2, 0, 3), arrive(3, 0, 9)}, {halt(2), halt(3)}}
	var logs [][]journal.Entry
	for _, l := range rows {
		k := booted(t, c, 0)
		for range 200 {
			k.Step(append(slices.Clone(l), arrive(1, 0, 3))...)
		}
		logs = append(logs, k.Log(1))
	}
	for i, l := range logs {
		if !journal.Same(l, logs[0]) {
			t.Errorf("behind %v: %s", rows[i], firstOther(l, logs[0]))
		}
	}
	// In a tick of 0 it ran, too.
	if !slices.ContainsFunc(logs[0], func(e journal.Entry) bool { return e.Kind == journal.Ran && e.B == 0 }) {
		t.Error("0 gave it nothing")
	}
}

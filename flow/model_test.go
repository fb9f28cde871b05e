package flow

import (
	"fmt"
	"math"
	"math/rand/v2"
	"slices"
	"testing"

	"parclose/conf"
)

// strange: numbers that are no partition's in a system of fewer than 1000.
var strange = []int{math.MinInt, math.MinInt + 1, -1 << 62, -1 << 32, -1000, -2, -1, 1000, 1 << 32, 1<<32 + 1, 1 << 62, math.MaxInt - 1, math.MaxInt}

// isEdge: is there one? Each of the document's causes is looked for by itself, and so for all pairs of a list's places.
func isEdge(c conf.Config, from, to int) bool {
	for _, x := range c.Chans {
		if x.From == from && x.To == to {
			return true
		}
	}
	if slices.Contains(c.Parts[from].Donees, to) {
		return true
	}
	for _, a := range c.Parts {
		for i, p := range a.Donees {
			if p == from && slices.Contains(a.Donees[i+1:], to) {
				return true
			}
		}
	}
	return false
}

// wantedEdges: what Edges is to answer.
func wantedEdges(c conf.Config) []Edge {
	var l []Edge
	for from := range c.Parts {
		for to := range c.Parts {
			if isEdge(c, from, to) {
				l = append(l, Edge{from, to})
			}
		}
	}
	return l
}

// closure: who leads into whom, by way of the first partition alone, then of the second one too, and so on.
func closure(c conf.Config) [][]bool {
	leads := make([][]bool, len(c.Parts))
	for p := range leads {
		leads[p] = make([]bool, len(c.Parts))
		for q := range leads {
			leads[p][q] = p == q || isEdge(c, p, q)
		}
	}
	for by := range leads {
		for p := range leads {
			for q := range leads {
				leads[p][q] = leads[p][q] || leads[p][by] && leads[by][q]
			}
		}
	}
	return leads
}

// wantedCut: what Cut is to answer.
func wantedCut(leads [][]bool, l ...int) []bool {
	cut := make([]bool, len(leads))
	for p := range leads {
		cut[p] = slices.ContainsFunc(l, func(q int) bool { return q >= 0 && q < len(leads) && leads[p][q] })
	}
	return cut
}

// places: of what is true.
func places(l []bool) []int {
	var all []int
	for i, is := range l {
		if is {
			all = append(all, i)
		}
	}
	return all
}

// edgesAre holds Edges of a system against an answer.
func edgesAre(t *testing.T, what string, c conf.Config, want ...Edge) {
	t.Helper()
	if got := Edges(c); !slices.Equal(got, want) {
		t.Errorf("%s: edges %v, not %v", what, got, want)
	}
}

// intoIs holds Into and Cut of a list against an answer.
func intoIs(t *testing.T, what string, c conf.Config, l []int, want ...int) {
	t.Helper()
	if got := Into(c, l...); !slices.Equal(got, want) {
		t.Errorf("%s: into %v lead %v, not %v", what, l, got, want)
	}
	cut := Cut(c, l...)
	if len(cut) != len(c.Parts) || !slices.Equal(places(cut), want) {
		t.Errorf("%s: cut of %v is %v, not at %v", what, l, cut, want)
	}
}

// holds holds all calls of a system against answers worked out without the program, for some lists and all pairs.
func holds(t *testing.T, what string, c conf.Config, lists ...[]int) {
	t.Helper()
	edgesAre(t, what, c, wantedEdges(c)...)
	leads := closure(c)
	for _, l := range lists {
		intoIs(t, what, c, l, places(wantedCut(leads, l...))...)
	}
	for from := range c.Parts {
		for to := range c.Parts {
			if got := Reaches(c, from, to); got != leads[from][to] {
				t.Errorf("%s: %d reaches %d: %v", what, from, to, got)
			}
		}
	}
}

// parts: so many partitions, and the donees of the first ones.
func parts(n int, donees ...[]int) conf.Config {
	c := conf.Config{Parts: make([]conf.Part, n)}
	for p, l := range donees {
		c.Parts[p].Donees = l
	}
	return c
}

// joined: so many partitions, and channels, of both kinds by turns.
func joined(n int, ends ...Edge) conf.Config {
	c := parts(n)
	for i, e := range ends {
		c.Chans = append(c.Chans, conf.Channel{Queue: i%2 == 0, From: e.From, To: e.To, Size: 1})
	}
	return c
}

// example: the chapter's, made anew each time.
func example() conf.Config {
	c := joined(4, Edge{0, 1})
	c.Parts[1].Donees = []int{2, 3}
	return c
}

// drawnNumber: that of a partition, seldom of none.
func drawnNumber(r *rand.Rand, n int) int {
	if n == 0 || r.IntN(8) == 0 {
		return append([]int{-1, n, n + 1}, strange...)[r.IntN(3+len(strange))]
	}
	return r.IntN(n)
}

func drawnList(r *rand.Rand, n, most int) []int {
	var l []int
	for range r.IntN(most + 1) {
		l = append(l, drawnNumber(r, n))
	}
	return l
}

// drawn: a system with few or many edges, be it one that may not be.
func drawn(r *rand.Rand) conf.Config {
	n := r.IntN(10)
	c := parts(n)
	for range r.IntN(1 + []int{2, 5, 20}[r.IntN(3)]) {
		c.Chans = append(c.Chans, conf.Channel{Queue: r.IntN(2) == 0, From: drawnNumber(r, n), To: drawnNumber(r, n), Size: r.IntN(20)})
	}
	for p := range c.Parts {
		if r.IntN(3) == 0 {
			c.Parts[p].Donees = drawnList(r, n, 1+r.IntN(12))
		}
	}
	return c
}

// each goes through many systems, with what they are called and some numbers.
func each(do func(what string, c conf.Config, l []int)) {
	r := rand.New(rand.NewPCG(7, 1))
	for i := range 3000 {
		c := drawn(r)
		do(fmt.Sprint("drawn system ", i), c, drawnList(r, len(c.Parts), 4))
	}
}

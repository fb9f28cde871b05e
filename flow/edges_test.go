package flow

import (
	"fmt"
	"math"
	"slices"
	"testing"

	"parclose/conf"
)

func TestP702EdgesOfTheExample(t *testing.T) {
	for range 3 {
		edgesAre(t, "the example", example(), Edge{0, 1}, Edge{1, 2}, Edge{1, 3}, Edge{2, 3})
	}
}

func TestP702EdgesOfNothing(t *testing.T) {
	edgesAre(t, "no system", conf.Config{})
	edgesAre(t, "empty lists", conf.Config{Parts: []conf.Part{}, Chans: []conf.Channel{}, Windows: []conf.Window{}})
	edgesAre(t, "partitions alone", parts(6))
	edgesAre(t, "no donees", parts(3, []int{}, nil, []int{}))
}

func TestP702EdgesAlongChannels(t *testing.T) {
	for from := range 4 {
		for to := range 4 {
			for _, queue := range []bool{false, true} {
				c := parts(4)
				c.Chans = []conf.Channel{{Queue: queue, From: from, To: to, Size: 3}}
				edgesAre(t, fmt.Sprint("a queue: ", queue), c, Edge{from, to})
			}
		}
	}
	// What a channel holds is of no weight, be it one that may not be.
	for _, size := range append([]int{0}, strange...) {
		c := parts(2)
		c.Chans = []conf.Channel{{From: 1, To: 0, Size: size}}
		edgesAre(t, fmt.Sprint("a size of ", size), c, Edge{1, 0})
	}
}

func TestP702EdgesToDonees(t *testing.T) {
	edgesAre(t, "one donee", parts(3, nil, nil, []int{0}), Edge{2, 0})
	edgesAre(t, "a donee of each", parts(3, []int{1}, []int{2}, []int{0}), Edge{0, 1}, Edge{1, 2}, Edge{2, 0})
	edgesAre(t, "two donees", parts(3, []int{1, 2}), Edge{0, 1}, Edge{0, 2}, Edge{1, 2})
	edgesAre(t, "two donees, turned round", parts(3, []int{2, 1}), Edge{0, 1}, Edge{0, 2}, Edge{2, 1})
	edgesAre(t, "four donees", parts(5, nil, nil, []int{4, 0, 3, 1}),
		Edge{0, 1}, Edge{0, 3}, Edge{2, 0}, Edge{2, 1}, Edge{2, 3}, Edge{2, 4}, Edge{3, 1}, Edge{4, 0}, Edge{4, 1}, Edge{4, 3})
}

func TestP702EdgesFromAPartitionToItself(t *testing.T) {
	edgesAre(t, "a channel", joined(2, Edge{1, 1}), Edge{1, 1})
	edgesAre(t, "its own donee", parts(2, []int{0}), Edge{0, 0})
	edgesAre(t, "its own donee, the last one", parts(2, []int{1, 0}), Edge{0, 0}, Edge{0, 1}, Edge{1, 0})
	edgesAre(t, "its own donee, the first one", parts(2, []int{0, 1}), Edge{0, 0}, Edge{0, 1})
}

func TestP702EdgesOfADoneeThatComesTwice(t *testing.T) {
	edgesAre(t, "twice, none between", parts(2, []int{1, 1}), Edge{0, 1}, Edge{1, 1})
	edgesAre(t, "three times", parts(2, []int{1, 1, 1}), Edge{0, 1}, Edge{1, 1})
	edgesAre(t, "twice, one between", parts(3, []int{1, 2, 1}), Edge{0, 1}, Edge{0, 2}, Edge{1, 1}, Edge{1, 2}, Edge{2, 1})
	edgesAre(t, "twice, one behind", parts(3, []int{1, 1, 2}), Edge{0, 1}, Edge{0, 2}, Edge{1, 1}, Edge{1, 2})
	edgesAre(t, "twice, one ahead", parts(3, []int{2, 1, 1}), Edge{0, 1}, Edge{0, 2}, Edge{1, 1}, Edge{2, 1})
	edgesAre(t, "three times, others between", parts(4, []int{1, 2, 1, 3, 1}),
		Edge{0, 1}, Edge{0, 2}, Edge{0, 3}, Edge{1, 1}, Edge{1, 2}, Edge{1, 3}, Edge{2, 1}, Edge{2, 3}, Edge{3, 1})
}

func TestP702EdgesOfEachShortList(t *testing.T) {
	// All lists of up to five donees, of 0 to 2 and one that is none.
	for n := range 6 {
		all := 1
		for range n {
			all *= 4
		}
		for k := range all {
			var l []int
			for range n {
				l = append(l, k%4)
				k /= 4
			}
			holds(t, fmt.Sprint("the donees ", l), parts(3, nil, l), []int{0}, []int{1}, []int{2}, []int{0, 2})
		}
	}
}

func TestP702AnEdgeOfSeveralCausesIsOne(t *testing.T) {
	c := joined(3, Edge{1, 2}, Edge{1, 2}, Edge{1, 2})
	edgesAre(t, "three channels", c, Edge{1, 2})
	c.Parts[1].Donees = []int{2, 2}
	edgesAre(t, "and donees", c, Edge{1, 2}, Edge{2, 2})
	c.Parts[0].Donees = []int{1, 2}
	edgesAre(t, "and those of another one", c, Edge{0, 1}, Edge{0, 2}, Edge{1, 2}, Edge{2, 2})
}

func TestP702EdgesRise(t *testing.T) {
	var l []Edge
	for from := range 12 {
		for to := range 12 {
			l = append(l, Edge{from, to})
		}
	}
	falling := slices.Clone(l)
	slices.Reverse(falling)
	edgesAre(t, "all of twelve", joined(12, l...), l...)
	edgesAre(t, "all of twelve, the last one first", joined(12, falling...), l...)
	l = slices.DeleteFunc(l, func(e Edge) bool { return (e.From*7+e.To*5)%3 != 0 })
	falling = slices.Clone(l)
	slices.Reverse(falling)
	edgesAre(t, "some, the last one first", joined(12, falling...), l...)
}

func TestP702EdgesOfManySystems(t *testing.T) {
	seen := map[int]int{}
	each(func(what string, c conf.Config, _ []int) {
		want := wantedEdges(c)
		seen[min(len(want), 8)]++
		for range 2 {
			edgesAre(t, what, c, want...)
		}
	})
	for n := range 9 {
		if seen[n] < 50 {
			t.Errorf("%d systems alone have %d edges", seen[n], n)
		}
	}
}

func TestP701EdgesOfNumbersThatAreNone(t *testing.T) {
	for n := range 4 {
		for _, no := range append([]int{-1, n, n + 1}, strange...) {
			what := fmt.Sprint(no, " of ", n)
			edgesAre(t, what, joined(n, Edge{no, no}, Edge{no, n - 1}, Edge{n - 1, no}, Edge{no, -1}))
		}
	}
	for _, no := range append([]int{3}, strange...) {
		what := fmt.Sprint("the donee ", no)
		edgesAre(t, what, parts(3, []int{no}))
		edgesAre(t, what+" twice", parts(3, []int{no, no}))
		edgesAre(t, what+" ahead of others", parts(3, []int{no, 2, 1}), Edge{0, 1}, Edge{0, 2}, Edge{2, 1})
		edgesAre(t, what+" between others", parts(3, []int{2, no, 1}), Edge{0, 1}, Edge{0, 2}, Edge{2, 1})
		edgesAre(t, what+" behind others", parts(3, []int{2, 1, no}), Edge{0, 1}, Edge{0, 2}, Edge{2, 1})
	}
	edgesAre(t, "donees that are all none", parts(2, strange, strange))
}

func TestP701EdgesOfLongLists(t *testing.T) {
	long := make([]int, 1<<20)
	for i := range long {
		long[i] = i % 5
	}
	var all []Edge
	for from := range 5 {
		for to := range 5 {
			all = append(all, Edge{from, to})
		}
	}
	edgesAre(t, "a long list", parts(5, long), all...)
	edgesAre(t, "a long list, of six partitions", parts(6, nil, long, nil, nil, nil, long), append(all, Edge{5, 0}, Edge{5, 1}, Edge{5, 2}, Edge{5, 3}, Edge{5, 4})...)
	for i := range long {
		long[i] = math.MaxInt - i
	}
	long[1000] = 1
	edgesAre(t, "a long list of none but one", parts(2, long), Edge{0, 1})
	c := parts(2)
	c.Chans = make([]conf.Channel, 1<<20)
	edgesAre(t, "many channels", c, Edge{0, 0})
	intoIs(t, "many channels", c, []int{1}, 1)
}

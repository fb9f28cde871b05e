package flow

import (
	"cmp"
	"maps"
	"slices"

	"parclose/conf"
)

// edges: each of them is there once.
type edges map[Edge]struct{}

func (s edges) add(from, to int) { s[Edge{from, to}] = struct{}{} }

// addAll: from each of a row to each one behind it.
func (s edges) addAll(row []int) {
	row = firstAndLast(row)
	for i, from := range row {
		for _, to := range row[i+1:] {
			s.add(from, to)
		}
	}
}

// addNext: from each of a row to the next one.
func (s edges) addNext(row []int) {
	for i := 1; i < len(row); i++ {
		s.add(row[i-1], row[i])
	}
}

// rising: by From, then To.
func (s edges) rising() []Edge {
	return slices.SortedFunc(maps.Keys(s), func(a, b Edge) int {
		return cmp.Or(cmp.Compare(a.From, b.From), cmp.Compare(a.To, b.To))
	})
}

// rows: the two ends of each channel, and each partition with its donees behind it. From each of a row edges lead to all those behind it.
func rows(c conf.Config) [][]int {
	var l [][]int
	for _, x := range c.Chans {
		l = append(l, known(c, x.From, x.To))
	}
	for p, a := range c.Parts {
		l = append(l, append([]int{p}, known(c, a.Donees...)...))
	}
	return l
}

// known: those of l that are partitions' numbers.
func known(c conf.Config, l ...int) []int {
	return slices.DeleteFunc(slices.Clone(l), func(p int) bool { return !c.Has(p) })
}

// firstAndLast: a row without those that stand between two of the same number, which add no edge; so a long row of few partitions is soon gone through.
func firstAndLast(row []int) []int {
	last := map[int]int{}
	for i, p := range row {
		last[p] = i
	}
	met := map[int]struct{}{}
	var l []int
	for i, p := range row {
		if _, again := met[p]; !again || last[p] == i {
			l = append(l, p)
		}
		met[p] = struct{}{}
	}
	return l
}

// ahead: for each partition those from which an edge leads to it. Of a row's edges those to the next one are enough, as they lead on to all behind it.
func ahead(c conf.Config) [][]int {
	steps := edges{}
	for _, row := range rows(c) {
		steps.addNext(row)
	}
	l := make([][]int, len(c.Parts))
	for e := range steps {
		l[e.To] = append(l[e.To], e.From)
	}
	return l
}

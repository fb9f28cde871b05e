package flow

import (
	"fmt"
	"slices"
	"testing"

	"parclose/conf"
)

// chain: so many partitions, from each of which an edge leads to the next one; and from the last to the first, if it is a ring.
func chain(n int, ring bool) conf.Config {
	var l []Edge
	for p := range n - 1 {
		l = append(l, Edge{p, p + 1})
	}
	if ring {
		l = append(l, Edge{n - 1, 0})
	}
	return joined(n, l...)
}

// upTo: the numbers from 0 to p.
func upTo(p int) []int {
	var l []int
	for q := range p + 1 {
		l = append(l, q)
	}
	return l
}

func TestP702IntoOfTheExample(t *testing.T) {
	for range 3 {
		c := example()
		intoIs(t, "the example", c, []int{3}, 0, 1, 2, 3)
		intoIs(t, "the example", c, []int{2}, 0, 1, 2)
		intoIs(t, "the example", c, []int{1}, 0, 1)
		intoIs(t, "the example", c, []int{0}, 0)
		for from := range 4 {
			for to := range 4 {
				if got := Reaches(c, from, to); got != (from <= to) {
					t.Errorf("%d reaches %d: %v", from, to, got)
				}
			}
		}
	}
}

func TestP702IntoNoneOneAndSeveral(t *testing.T) {
	// Two chains, and one that stands alone: 0 to 2, 3 to 5, 6.
	c := joined(7, Edge{0, 1}, Edge{1, 2}, Edge{3, 4}, Edge{4, 5})
	intoIs(t, "of none", c, nil)
	intoIs(t, "of none", c, []int{})
	intoIs(t, "of one", c, []int{6}, 6)
	intoIs(t, "of one", c, []int{1}, 0, 1)
	intoIs(t, "of several", c, []int{1, 4}, 0, 1, 3, 4)
	intoIs(t, "of several, the last one first", c, []int{6, 5, 1}, 0, 1, 3, 4, 5, 6)
	intoIs(t, "of several of a chain", c, []int{0, 2, 1}, 0, 1, 2)
	intoIs(t, "of the same twice", c, []int{4, 4}, 3, 4)
	intoIs(t, "of the same twice, and others", c, []int{4, 0, 4, 0, 6, 4}, 0, 3, 4, 6)
	intoIs(t, "of all", c, upTo(6), 0, 1, 2, 3, 4, 5, 6)
	for _, no := range append([]int{-1, 7, 8}, strange...) {
		intoIs(t, "of one that is none", c, []int{no})
		intoIs(t, "and one that is", c, []int{no, 1}, 0, 1)
		intoIs(t, "behind one that is", c, []int{3, no}, 3)
		intoIs(t, "between those that are", c, []int{6, no, no, 0}, 0, 6)
	}
}

func TestP702IntoThroughChains(t *testing.T) {
	for _, n := range []int{1, 2, 3, 6, 50} {
		c := chain(n, false)
		for p := range n {
			intoIs(t, fmt.Sprint("a chain of ", n), c, []int{p}, upTo(p)...)
		}
		slices.Reverse(c.Chans)
		for p := range n {
			intoIs(t, fmt.Sprint("a chain of ", n, ", the last channel first"), c, []int{p}, upTo(p)...)
		}
	}
	// Each one's donee is the one ahead.
	c := parts(6, nil, []int{0}, []int{1}, []int{2}, []int{3}, []int{4})
	intoIs(t, "a chain of donees", c, []int{3}, 3, 4, 5)
	intoIs(t, "a chain of donees", c, []int{5, 4}, 4, 5)
}

func TestP702IntoThroughRings(t *testing.T) {
	for _, n := range []int{1, 2, 3, 6, 50} {
		c := chain(n, true)
		for p := range n {
			intoIs(t, fmt.Sprint("a ring of ", n), c, []int{p}, upTo(n-1)...)
		}
	}
	// A ring of 1 to 3, which 0 leads into, and which leads into 4.
	c := joined(6, Edge{1, 2}, Edge{2, 3}, Edge{3, 1}, Edge{0, 2}, Edge{3, 4})
	for p := 1; p < 4; p++ {
		intoIs(t, "a ring in a chain", c, []int{p}, 0, 1, 2, 3)
	}
	intoIs(t, "ahead of the ring", c, []int{0}, 0)
	intoIs(t, "behind the ring", c, []int{4}, 0, 1, 2, 3, 4)
	intoIs(t, "beside the ring", c, []int{5}, 5)
}

func TestP702IntoThroughLists(t *testing.T) {
	c := parts(6, nil, nil, []int{5, 0, 4})
	intoIs(t, "the first donee", c, []int{5}, 2, 5)
	intoIs(t, "the second donee", c, []int{0}, 0, 2, 5)
	intoIs(t, "the last donee", c, []int{4}, 0, 2, 4, 5)
	intoIs(t, "the one that gives", c, []int{2}, 2)
	intoIs(t, "one beside them", c, []int{3}, 3)
	// One that is none between two donees parts nothing.
	c.Parts[2].Donees = []int{5, 6, 0, -1, 4}
	intoIs(t, "the last donee", c, []int{4}, 0, 2, 4, 5)
	intoIs(t, "the second donee", c, []int{0}, 0, 2, 5)
}

func TestP702APartitionLeadsIntoItself(t *testing.T) {
	for n := 1; n < 9; n++ {
		c := parts(n)
		for p := range n {
			intoIs(t, "one alone", c, []int{p}, p)
			for q := range n {
				if got := Reaches(c, p, q); got != (p == q) {
					t.Errorf("%d of %d reaches %d: %v", p, n, q, got)
				}
			}
		}
	}
}

func TestP702CutHasOneAnswerAPartition(t *testing.T) {
	for n := range 9 {
		for _, l := range [][]int{nil, {0}, {n}, {-1, n - 1}, upTo(n)} {
			if got := Cut(parts(n), l...); len(got) != n {
				t.Errorf("%d answers for %d partitions", len(got), n)
			}
		}
	}
	if got := Cut(example(), 1); !slices.Equal(got, []bool{true, true, false, false}) {
		t.Errorf("of the example: %v", got)
	}
	if got := Cut(parts(4, nil, nil, nil, []int{1}), 1, 2); !slices.Equal(got, []bool{false, true, true, true}) {
		t.Errorf("of one donee: %v", got)
	}
}

func TestP702ReachesIsWhatIntoTells(t *testing.T) {
	each(func(what string, c conf.Config, _ []int) {
		for to := range c.Parts {
			into, cut := Into(c, to), Cut(c, to)
			for from := range c.Parts {
				told := slices.Contains(into, from)
				if got := Reaches(c, from, to); got != told || cut[from] != told {
					t.Errorf("%s: %d reaches %d: %v; into it lead %v; cut is %v", what, from, to, got, into, cut)
				}
			}
		}
	})
}

func TestP702ManySystems(t *testing.T) {
	seen := map[int]int{}
	each(func(what string, c conf.Config, l []int) {
		all := [][]int{nil, l, upTo(len(c.Parts))}
		for p := range c.Parts {
			all = append(all, []int{p})
		}
		for range 2 {
			holds(t, what, c, all...)
		}
		seen[len(Into(c, l...))]++
	})
	for n := range 9 {
		if seen[n] < 20 {
			t.Errorf("into %d systems' lists alone lead %d", seen[n], n)
		}
	}
}

func TestP702NothingButEdgesIsOfWeight(t *testing.T) {
	each(func(what string, c conf.Config, l []int) {
		want, into := Edges(c), Into(c, l...)
		c.Frame, c.Margin = 9, -9
		c.Windows = []conf.Window{{At: 0, Len: 3, Part: 0}, {At: 3, Len: 3, Part: 1}, {At: -1, Len: -2, Part: 2}}
		for p := range c.Parts {
			c.Parts[p].Tasks = make([]conf.Task, p)
			c.Parts[p].Servers = []conf.Server{{Refill: true, C: p, T: 1}}
			c.Parts[p].Acts = [3]uint8{1, 2, 3}
		}
		for i := range c.Chans {
			c.Chans[i].Queue = !c.Chans[i].Queue
			c.Chans[i].Size -= 20
		}
		edgesAre(t, what, c, want...)
		intoIs(t, what, c, l, into...)
	})
}

func TestP701ReachesOfNumbersThatAreNone(t *testing.T) {
	for n := range 4 {
		numbers := append([]int{-1, n, n + 1}, strange...)
		// Channels and donees that seem to lead from and to them.
		c := parts(n)
		for _, no := range numbers {
			c.Chans = append(c.Chans, conf.Channel{From: no, To: n - 1}, conf.Channel{From: 0, To: no}, conf.Channel{From: no, To: no})
		}
		for p := range c.Parts {
			c.Parts[p].Donees = numbers
		}
		for _, no := range numbers {
			for p := -1; p <= n; p++ {
				if Reaches(c, no, p) || Reaches(c, p, no) {
					t.Errorf("%d and %d of %d", no, p, n)
				}
			}
			for _, other := range numbers {
				if Reaches(c, no, other) {
					t.Errorf("%d reaches %d of %d", no, other, n)
				}
			}
			intoIs(t, fmt.Sprint(no, " of ", n), c, []int{no})
			intoIs(t, fmt.Sprint("all that are none of ", n), c, append([]int{no}, numbers...))
		}
		edgesAre(t, fmt.Sprint("none of ", n), c)
	}
}

func TestP701SystemsWithoutPartitions(t *testing.T) {
	full := joined(0, Edge{0, 1}, Edge{0, 0}, Edge{-1, 0})
	for i, c := range []conf.Config{{}, {Parts: []conf.Part{}}, {Parts: make([]conf.Part, 0, 4)}, full} {
		what := fmt.Sprint("system ", i)
		edgesAre(t, what, c)
		for _, l := range [][]int{nil, {}, {0}, {-1}, {0, 0, 1}, strange} {
			intoIs(t, what, c, l)
		}
		for _, p := range append([]int{-1, 0, 1}, strange...) {
			if Reaches(c, p, p) || Reaches(c, 0, p) || Reaches(c, p, 0) {
				t.Errorf("%s: %d", what, p)
			}
		}
	}
}

func TestP701LongLists(t *testing.T) {
	long := make([]int, 1<<20)
	for i := range long {
		long[i] = i%9 - 2
	}
	intoIs(t, "a long list of numbers", chain(4, false), long, 0, 1, 2, 3)
	for i := range long {
		long[i] = -i
	}
	long[1<<19] = 2
	intoIs(t, "a long list of none but two", chain(4, false), long, 0, 1, 2)
	// Many partitions: each leads into the next one, and all are donees of the first.
	c := chain(1<<16, false)
	c.Parts[0].Donees = upTo(1<<16 - 1)
	intoIs(t, "a long chain", c, []int{1<<16 - 2}, upTo(1<<16-2)...)
	if !Reaches(c, 0, 1<<16-1) || Reaches(c, 1<<16-1, 1<<16-2) {
		t.Error("a long chain doesn't lead from its beginning to its end alone")
	}
}

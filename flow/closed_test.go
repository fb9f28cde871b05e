package flow

import (
	"slices"
	"testing"

	"parclose/conf"
)

// closedOf holds an answer of Into to P703, by the edges that the document names.
func closedOf(t *testing.T, what string, c conf.Config, l []int) {
	t.Helper()
	into := Into(c, l...)
	for _, e := range wantedEdges(c) {
		if slices.Contains(into, e.To) && !slices.Contains(into, e.From) {
			t.Errorf("%s: an edge from %d leads into %v from without, at %d", what, e.From, into, e.To)
		}
	}
	for _, p := range into {
		if !slices.Contains(l, p) && !slices.ContainsFunc(into, func(q int) bool { return q != p && isEdge(c, p, q) }) {
			t.Errorf("%s: no edge leads from %d on within %v, of %v", what, p, into, l)
		}
	}
	for _, p := range l {
		if c.Has(p) && !slices.Contains(into, p) {
			t.Errorf("%s: %d isn't one of %v, of %v", what, p, into, l)
		}
	}
}

func TestP703ClosedInTheExample(t *testing.T) {
	for p := range 4 {
		for q := range 4 {
			closedOf(t, "the example", example(), []int{p, q})
		}
	}
}

func TestP703ClosedInManySystems(t *testing.T) {
	each(func(what string, c conf.Config, l []int) {
		closedOf(t, what, c, nil)
		closedOf(t, what, c, l)
		for p := range c.Parts {
			closedOf(t, what, c, []int{p})
		}
	})
}

func TestP703ClosedByTheEdgesThatAreTold(t *testing.T) {
	each(func(what string, c conf.Config, l []int) {
		into, all := Into(c, l...), Edges(c)
		for _, e := range all {
			if slices.Contains(into, e.To) && !slices.Contains(into, e.From) {
				t.Errorf("%s: %v leads into %v from without", what, e, into)
			}
		}
		for _, p := range into {
			within := func(e Edge) bool { return e.From == p && e.To != p && slices.Contains(into, e.To) }
			if !slices.Contains(l, p) && !slices.ContainsFunc(all, within) {
				t.Errorf("%s: none of the edges leads from %d on within %v, of %v", what, p, into, l)
			}
		}
		// Who leads into those that lead there leads there, too, and nobody else.
		if again := Into(c, into...); !slices.Equal(again, into) {
			t.Errorf("%s: into %v lead %v", what, into, again)
		}
	})
}

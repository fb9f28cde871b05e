package gsched

import (
	"parclose/conf"
	"parclose/frame"
	"parclose/ledger"
)

// system: whose each tick is, and to whom it may go. Nothing in it is changed, once it is made.
type system struct {
	*frame.Table
	// donees: of each partition, in order.
	donees [][]int
}

func newSystem(table *frame.Table, parts ...conf.Part) *system {
	s := &system{Table: table}
	for _, a := range parts {
		s.donees = append(s.donees, apart(a.Donees))
	}
	return s
}

// open: who gets an open tick of its owner.
func (s *system) open(owner int, ready []bool) Choice {
	if isReady(owner, ready) {
		return Choice{ledger.Own, owner, owner}
	}
	for _, p := range s.donees[owner] {
		if isReady(p, ready) {
			return Choice{ledger.Given, owner, p}
		}
	}
	return Choice{ledger.Lost, owner, nobody}
}

func (s *system) has(p int) bool { return p >= 0 && p < len(s.donees) }

func isReady(p int, ready []bool) bool { return p < len(ready) && ready[p] }

// apart: not by slices.Clone, which of an empty list answers one that still lies in the same room.
func apart(l []int) []int { return append([]int(nil), l...) }

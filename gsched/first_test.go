package gsched_test

import (
	"math/rand/v2"
	"slices"
	"testing"

	"parclose/gsched"
)

// isFirst holds a choice to P2403, and says nothing else of it.
func (b *both) isFirst(tick int, ready []bool, got gsched.Choice) {
	b.t.Helper()
	owner := b.m.openTo(tick)
	if owner != -1 && in(ready, owner) && got.Runner != owner {
		b.t.Errorf("%d: %d is ready in its open tick, and %v", tick, owner, got)
	}
	if got.Runner != -1 && !in(ready, got.Runner) {
		b.t.Errorf("%d: who runs is not ready: %v of %v", tick, got, ready)
	}
	if got.Runner != -1 && owner == -1 {
		b.t.Errorf("%d: it is open to nobody, and %v", tick, got)
	}
	if got.Kind != given && got.Runner != -1 && got.Runner != owner {
		b.t.Errorf("%d: it runs in another one's tick, and was not given it: %v", tick, got)
	}
	if got.Kind != given {
		return
	}
	list := b.m.Parts[owner].Donees
	place := slices.Index(list, got.Runner)
	if place == -1 {
		b.t.Fatalf("%d: %v is given to one that is not on the list %v", tick, got, list)
	}
	for _, ahead := range append([]int{owner}, list[:place]...) {
		if in(ready, ahead) {
			b.t.Errorf("%d: %v is given past %d, which is ready", tick, got, ahead)
		}
	}
}

func TestP2403FirstTheOwner(t *testing.T) {
	var seen [5]int
	for seed := range uint64(400) {
		r := rand.New(rand.NewPCG(seed, 2403))
		b := newBoth(t, drawn(r))
		for range 400 {
			tick, ready := drawnTick(r), drawnRow(r)
			got := b.s.At(tick, ready...)
			b.isFirst(tick, ready, got)
			seen[got.Kind]++
		}
		b.stop("first the owner")
	}
	for kind, n := range seen {
		if n < 1000 {
			t.Errorf("only %d choices of kind %d were seen", n, kind)
		}
	}
}

func TestP2403AllTicksAndRows(t *testing.T) {
	for seed := range uint64(40) {
		r := rand.New(rand.NewPCG(seed, 42403))
		b := newBoth(t, drawn(r))
		for _, ready := range rows(len(b.m.Parts)) {
			for tick := range b.m.Frame {
				b.isFirst(tick, ready, b.s.At(tick, ready...))
			}
		}
		b.stop("all ticks and rows")
	}
}

package gsched_test

import (
	"math/rand/v2"
	"testing"
)

// drawing: what calls are drawn by.
type drawing struct {
	*both
	r *rand.Rand
}

func newDrawing(t *testing.T, seed uint64) *drawing {
	t.Helper()
	r := rand.New(rand.NewPCG(seed, 240))
	return &drawing{newBoth(t, drawn(r)), r}
}

// part: of the system most often.
func (d *drawing) part() int {
	if d.r.IntN(4) == 0 {
		return partitions[d.r.IntN(len(partitions))]
	}
	return d.r.IntN(len(d.m.Parts))
}

func (d *drawing) call() {
	switch d.r.IntN(4) {
	case 0:
		d.donees(d.part())
	case 1:
		d.next(d.part(), drawnTick(d.r))
	default:
		d.at(drawnTick(d.r), drawnRow(d.r)...)
	}
}

func TestP2402DrawnCalls(t *testing.T) {
	for seed := range uint64(1500) {
		d := newDrawing(t, seed)
		for range 200 {
			d.call()
		}
		d.stop("drawn calls")
	}
}

func TestP2402DrawnSystemsLookedAtFar(t *testing.T) {
	for seed := range uint64(150) {
		d := newDrawing(t, 5000+seed)
		d.lookFar()
		d.stop("a drawn system")
	}
}

package health_test

import (
	"math/rand/v2"
	"testing"
)

// drawing: what a row of calls is drawn by.
type drawing struct {
	*both
	r *rand.Rand
}

func newDrawing(t *testing.T, acts [3]uint8, seed uint64) *drawing {
	t.Helper()
	return &drawing{newBoth(t, acts), rand.New(rand.NewPCG(seed, 22))}
}

// kind: most often one there is.
func (d *drawing) kind() int {
	switch d.r.IntN(10) {
	case 0:
		return numbers[d.r.IntN(len(numbers))]
	case 1:
		return d.r.IntN(5) - 1
	}
	return d.r.IntN(3)
}

// call: a fault most often, else a look at one thing.
func (d *drawing) call() {
	switch d.r.IntN(6) {
	case 0:
		d.count(d.kind())
	case 1:
		d.told()
	default:
		d.fault(d.kind())
	}
}

func TestP2202DrawnRowsOfCalls(t *testing.T) {
	for i, acts := range rows() {
		for seed := range uint64(15) {
			d := newDrawing(t, acts, 100*uint64(i)+seed)
			for range 200 {
				d.call()
				d.look()
				d.stop("drawn calls")
			}
			d.lookFar()
			d.stop("drawn calls")
		}
	}
}

func TestP2202LongDrawnRowsOfCalls(t *testing.T) {
	for i, acts := range rows() {
		d := newDrawing(t, acts, 5000+uint64(i))
		for n := range 5000 {
			d.fault(d.kind())
			if n%500 == 0 {
				d.look()
			}
		}
		d.lookFar()
		d.stop("drawn faults")
	}
}

func TestP2202AllShortRowsOfFaults(t *testing.T) {
	// Each call is a fault of one of the kinds, or of the numbers just below and above them.
	const calls, steps = 5, 4
	count := 1
	for range steps {
		count *= calls
	}
	for _, acts := range rows() {
		for row := range count {
			b := newBoth(t, acts)
			for range steps {
				b.fault(row%calls - 1)
				b.look()
				row /= calls
			}
			b.stop("a short row")
		}
	}
}

package wheel_test

import (
	"math/rand/v2"
	"testing"

	"parclose/api"
)

// drawing: what a row of calls is drawn by.
type drawing struct {
	*both
	r *rand.Rand
	// span: timers are set to so many ticks ahead, at most; 0, if also to those about which an answer may turn.
	span int
}

func newDrawing(t *testing.T, start, span int, seed uint64) *drawing {
	return &drawing{newBoth(t, start), rand.New(rand.NewPCG(seed, uint64(start^span<<20))), span}
}

// tick: most often one that a timer may be set to.
func (d *drawing) tick() int {
	if d.r.IntN(12) == 0 {
		return d.p.now - d.r.IntN(3)
	}
	if d.span > 0 {
		return d.p.now + 1 + d.r.IntN(d.span)
	}
	switch d.r.IntN(6) {
	case 0:
		return ticks[d.r.IntN(len(ticks))]
	case 1:
		l := ends(d.p.now)
		return l[d.r.IntN(len(l))]
	case 2:
		// In any level.
		return d.p.now + 1 + d.r.IntN(1<<(1+d.r.IntN(60)))
	default:
		return d.p.now + 1 + d.r.IntN(20)
	}
}

// any: most often a number, or the one next to the numbers.
func (d *drawing) any(count int) int {
	if d.r.IntN(16) == 0 {
		return numbers[d.r.IntN(len(numbers))]
	}
	return d.r.IntN(count+2) - 1
}

// some: one that is set, if there is one.
func (d *drawing) some(count int) int {
	if len(d.p.list) == 0 || d.r.IntN(4) == 0 {
		return d.any(count)
	}
	return d.p.list[d.r.IntN(len(d.p.list))].id
}

// first: the one that comes first, if there is one.
func (d *drawing) first(count int) int {
	if len(d.p.list) == 0 {
		return d.any(count)
	}
	return d.p.list[0].id
}

// call: one of a wheel of which so many timers are set, most often.
func (d *drawing) call(count int) {
	switch d.r.IntN(12) {
	case 0, 1, 2:
		d.set(d.any(count), d.tick())
	case 3:
		d.set(d.some(count), d.tick())
	case 4:
		d.set(d.first(count), d.tick())
	case 5:
		d.cancel(d.some(count))
	case 6:
		d.cancel(d.first(count))
	case 7:
		d.when(d.any(count))
		d.when(d.some(count))
	default:
		d.step()
	}
	d.place()
}

func TestP1302DrawnRowsOfCalls(t *testing.T) {
	for _, start := range starts() {
		for _, span := range []int{0, 1, 3, 30, 300} {
			d := newDrawing(t, start, span, 1)
			for range 200 {
				d.call(12)
				d.look()
			}
			if t.Failed() {
				t.Fatalf("start %d, span %d", start, span)
			}
		}
	}
}

func TestP1302LongDrawnRowsOfCalls(t *testing.T) {
	for _, start := range []int{0, 1<<12 - 40, 1<<20 - 500, 1<<40 - 3000, api.MaxTick - 6000} {
		for _, span := range []int{0, 20, 5000} {
			for seed := range uint64(3) {
				d := newDrawing(t, start, span, 10+seed)
				for i := range 10000 {
					d.call(40)
					if i%50 == 0 {
						d.look()
					}
				}
				if t.Failed() {
					t.Fatalf("start %d, span %d, seed %d", start, span, seed)
				}
			}
		}
	}
}

// fill: all that are not set are, in a drawn order.
func (d *drawing) fill() {
	for _, id := range d.r.Perm(api.MaxTimers) {
		if d.p.at(id) < 0 {
			d.set(id, d.tick())
		}
	}
}

func TestP1302DrawnRowsOfAllTimers(t *testing.T) {
	for _, start := range []int{0, 250, 1<<16 - 700, 1<<32 - 5, 1<<56 - 90, 3<<60 - 1, api.MaxTick - 700} {
		for _, span := range []int{0, 1, 16, 100, 1000} {
			d := newDrawing(t, start, span, 5)
			d.fill()
			d.look()
			for i := range 2500 {
				d.call(api.MaxTimers)
				if i%100 == 0 {
					d.fill()
					d.look()
				}
			}
			d.walk(1100)
			if t.Failed() {
				t.Fatalf("start %d, span %d", start, span)
			}
		}
	}
}

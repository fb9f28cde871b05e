package journal_test

import (
	"math/rand/v2"
	"testing"

	"parclose/journal"
)

// drawing: what a row of calls is drawn by.
type drawing struct {
	*both
	r *rand.Rand
}

func newDrawing(t *testing.T, room int, seed uint64) *drawing {
	t.Helper()
	return &drawing{newBoth(t, room), rand.New(rand.NewPCG(seed, 23))}
}

// number: a small one most often.
func (d *drawing) number() int {
	if d.r.IntN(8) == 0 {
		return numbers[d.r.IntN(len(numbers))]
	}
	return d.r.IntN(20) - 2
}

func (d *drawing) entries() []journal.Entry {
	l := make([]journal.Entry, d.r.IntN(5), 8)
	if d.r.IntN(20) == 0 {
		l = make([]journal.Entry, d.r.IntN(60))
	}
	for i := range l {
		l[i] = journal.Entry{Tick: d.number(), Kind: d.number(), A: d.number(), B: d.number()}
	}
	return l
}

func (d *drawing) kinds() []int {
	l := make([]int, d.r.IntN(6))
	for i := range l {
		l[i] = d.number()
	}
	return l
}

func (d *drawing) call() {
	switch d.r.IntN(6) {
	case 0:
		d.counts()
	case 1:
		d.all()
	case 2:
		d.of(d.kinds()...)
	default:
		d.add(d.entries()...)
	}
}

func TestP2302DrawnRowsOfCalls(t *testing.T) {
	for room := -1; room < 60; room++ {
		for seed := range uint64(4) {
			d := newDrawing(t, room, 100*uint64(room+1)+seed)
			for range 80 {
				d.call()
				d.look()
				d.of(d.kinds()...)
				d.stop("drawn calls")
			}
			d.lookFar()
			d.stop("drawn calls")
		}
	}
}

func TestP2302LongDrawnRowsOfCalls(t *testing.T) {
	for seed, room := range []int{300, 1000, 5000, 20000} {
		d := newDrawing(t, room, 9000+uint64(seed))
		for n := range 4000 {
			d.add(d.entries()...)
			d.counts()
			if n%400 == 0 {
				d.look()
			}
		}
		d.lookFar()
		d.stop("long drawn calls")
	}
}

func TestP2302AllShortRowsOfCalls(t *testing.T) {
	// Each call adds from none to 3.
	const calls, steps = 4, 5
	count := 1
	for range steps {
		count *= calls
	}
	for room := range 10 {
		for short := range count {
			b := newBoth(t, room)
			for step := range steps {
				b.add(row(10*step, short%calls)...)
				b.look()
				short /= calls
			}
			b.stop("a short row")
		}
	}
}

func TestP2303DrawnListsAreTheSameJustIfTheyAreAlike(t *testing.T) {
	r := rand.New(rand.NewPCG(1, 2303))
	draw := func() []journal.Entry {
		l := make([]journal.Entry, r.IntN(3))
		for i := range l {
			l[i] = journal.Entry{Tick: r.IntN(2), Kind: r.IntN(2), A: r.IntN(2), B: r.IntN(2)}
		}
		return l
	}
	were := 0
	for range 50000 {
		a, b := draw(), draw()
		want := alike(a, b)
		if want && len(a) > 0 {
			were++
		}
		same(t, "drawn lists", a, b, want)
	}
	if were < 100 {
		t.Errorf("%d were alike", were)
	}
}

package heap

import (
	"math/rand/v2"
	"testing"
)

// drawing: what a row of calls is drawn by.
type drawing struct {
	*both
	r *rand.Rand
	// span: dues are of so many times; 0, if they are of those at which an int may wrap round.
	span int
}

func newDrawing(t *testing.T, room, span int, seed uint64) *drawing {
	return &drawing{newBoth(t, room), rand.New(rand.NewPCG(seed, uint64(room*1000+span))), span}
}

// time: some time at which one may be due.
func (d *drawing) time() int {
	if d.span == 0 {
		return dues[d.r.IntN(len(dues))]
	}
	return d.r.IntN(d.span) - d.span/2
}

// any: most often a number, or the one next to the numbers.
func (d *drawing) any() int {
	if d.r.IntN(16) == 0 {
		return edges[d.r.IntN(len(edges))]
	}
	return d.r.IntN(d.p.room+2) - 1
}

// some: one that is in, if there is one.
func (d *drawing) some() int {
	if len(d.p.list) == 0 || d.r.IntN(4) == 0 {
		return d.any()
	}
	return d.p.list[d.r.IntN(len(d.p.list))].id
}

// call: one of a heap that fills, if many are put, and else empties.
func (d *drawing) call(filling bool) {
	d.t.Helper()
	kind := d.r.IntN(10)
	if filling && kind >= 8 {
		kind = 0
	}
	switch kind {
	case 0, 1, 2:
		d.put(d.any(), d.time())
	case 3, 4, 5:
		d.change(d.some(), d.time())
	case 6:
		d.remove(d.some())
	case 7:
		d.due(d.any())
		d.due(d.some())
	default:
		d.pop()
	}
	d.first()
	d.length()
}

func TestP1202DrawnRowsOfCalls(t *testing.T) {
	for _, room := range []int{0, 1, 2, 3, 4, 5, 7, 8, 15, 16, 40} {
		for _, span := range []int{0, 1, 2, 5, 30, 1000} {
			for seed := range uint64(8) {
				d := newDrawing(t, room, span, seed)
				for i := range 250 {
					d.call(i/50%2 == 0)
					d.look()
				}
				if t.Failed() {
					t.Fatalf("room %d, span %d, seed %d", room, span, seed)
				}
			}
		}
	}
}

// fill: all that are not in are put, in a drawn order.
func (d *drawing) fill() {
	d.t.Helper()
	for _, id := range d.r.Perm(d.p.room) {
		if d.p.at(id) < 0 {
			d.put(id, d.time())
		}
	}
}

func TestP1202FullHeapsOfTheGreatestRoom(t *testing.T) {
	for _, span := range []int{0, 1, 3, 100, 1 << 30} {
		d := newDrawing(t, 1024, span, 1)
		d.fill()
		d.look()
		for i := range 3000 {
			d.call(true)
			if i%300 == 0 {
				d.fill()
				d.look()
			}
		}
		d.fill()
		for id := range 1024 {
			d.put(id, d.time())
		}
		d.put(1024, 0)
		d.look()
		d.popAll()
		d.look()
		if t.Failed() {
			t.Fatalf("span %d", span)
		}
	}
}

// popped: of a heap alone, without what it is held against: all that come, and each just once.
func popped(t *testing.T, h *Heap, want map[int]int) {
	t.Helper()
	last, seen := pair{}, map[int]bool{}
	for i := range len(want) {
		id, due, ok := h.Pop()
		if !ok {
			t.Fatalf("%d came of %d", i, len(want))
		}
		if at, in := want[id]; !in || at != due || seen[id] {
			t.Errorf("%d, due at %d, came; was it in: %v, due at %d; did it come: %v", id, due, in, at, seen[id])
		}
		if i > 0 && (due < last.due || due == last.due && id <= last.id) {
			t.Errorf("%d, due at %d, came behind %v", id, due, last)
		}
		last, seen[id] = pair{id, due}, true
	}
	for range 3 {
		if id, due, ok := h.Pop(); id != 0 || due != 0 || ok {
			t.Errorf("behind all: %d, %d, %v", id, due, ok)
		}
	}
}

func TestP1203PoppedOneByOne(t *testing.T) {
	for _, room := range []int{1, 2, 3, 6, 17, 64, 255, 1024} {
		for _, span := range []int{0, 1, 4, 50, 1 << 40} {
			for seed := range uint64(6) {
				d := newDrawing(t, room, span, 100+seed)
				h, in := d.h, map[int]int{}
				for _, id := range d.r.Perm(room)[:1+d.r.IntN(room)] {
					in[id] = d.time()
					h.Put(id, in[id])
				}
				// Changes and removals, and some that come again.
				for range 2 * room {
					id, due := d.r.IntN(room), d.time()
					switch _, there := in[id]; {
					case there && d.r.IntN(4) == 0:
						h.Remove(id)
						delete(in, id)
					case there:
						h.Change(id, due)
						in[id] = due
					case d.r.IntN(2) == 0:
						h.Put(id, due)
						in[id] = due
					}
				}
				popped(t, h, in)
			}
		}
	}
}

func TestP1203ChangedAndRemovedBetweenPops(t *testing.T) {
	for _, room := range []int{2, 5, 16, 100} {
		for _, span := range []int{0, 2, 20, 1000} {
			for seed := range uint64(10) {
				d := newDrawing(t, room, span, 200+seed)
				d.fill()
				for len(d.p.list) > 0 {
					d.pop()
					d.change(d.some(), d.time())
					if d.r.IntN(3) == 0 {
						d.remove(d.some())
					}
					d.all()
				}
				d.popAll()
				d.fill()
				d.popAll()
			}
		}
	}
}

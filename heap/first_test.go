package heap

import (
	"slices"
	"testing"
)

func TestP1202FirstAndPopOfNone(t *testing.T) {
	for _, room := range []int{0, 1, 12, 1024} {
		b := newBoth(t, room)
		for range 3 {
			b.first()
			b.pop()
			b.length()
			b.all()
		}
		// And of one that had some.
		for id := range min(room, 12) {
			b.put(id, -id)
		}
		b.popAll()
		b.first()
		b.look()
	}
}

func TestP1202FirstAndPopOfOne(t *testing.T) {
	for _, id := range []int{0, 1, 511, 1022, 1023} {
		for _, due := range dues {
			b := of(t, 1024, pair{id, due})
			b.first()
			b.first()
			b.due(id)
			b.all()
			b.length()
			b.pop()
			b.first()
			b.pop()
			b.due(id)
			b.all()
			b.length()
		}
	}
}

func TestP1202FirstAndPopOfMany(t *testing.T) {
	for _, l := range heaps() {
		b := of(t, 12, l...)
		for range l {
			b.look()
			b.pop()
		}
		b.look()
		b.popAll()
	}
}

func TestP1202DueOfNone(t *testing.T) {
	for _, l := range heaps() {
		b := of(t, 12, l...)
		for _, id := range append([]int{12, 13, 23, 24}, edges...) {
			b.due(id)
		}
		b.look()
	}
}

func TestP1202AllInOrder(t *testing.T) {
	// Behind 7, 3 and 5 are due at the same; 3 goes later, and comes back.
	h := New(8)
	for _, x := range []pair{{5, 2}, {3, 2}, {7, -4}, {0, 9}} {
		h.Put(x.id, x.due)
	}
	wants := [][]int{{7, 3, 5, 0}, {7, 5, 3, 0}, {7, 5, 0, 3}, {7, 3, 5, 0}, {3, 7, 5, 0}}
	for i, due := range []int{2, 3, 10, 2, -4} {
		h.Change(3, due)
		for range 3 {
			if l := h.All(); !slices.Equal(l, wants[i]) {
				t.Errorf("3 due at %d: %v, not %v", due, l, wants[i])
			}
		}
	}
	if h.Len() != 4 {
		t.Errorf("All left %d of 4", h.Len())
	}
}

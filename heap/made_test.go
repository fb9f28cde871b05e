package heap

import (
	"math"
	"testing"

	"parclose/api"
)

// takesNothing holds a heap without room, or none at all, to its answers, whatever it is handed.
func takesNothing(t *testing.T, what string, h *Heap) {
	t.Helper()
	for _, id := range edges {
		for _, due := range dues {
			if err := h.Put(id, due); err != api.ErrArg {
				t.Errorf("%s: Put(%d, %d): %d", what, id, due, err)
			}
			if err := h.Change(id, due); err != api.ErrArg {
				t.Errorf("%s: Change(%d, %d): %d", what, id, due, err)
			}
		}
		if h.Remove(id) {
			t.Errorf("%s: Remove(%d): true", what, id)
		}
		if due, ok := h.Due(id); due != 0 || ok {
			t.Errorf("%s: Due(%d): %d, %v", what, id, due, ok)
		}
		hasNone(t, what, h)
	}
}

// hasNone holds a heap that none is in to what it tells of it.
func hasNone(t *testing.T, what string, h *Heap) {
	t.Helper()
	if id, due, ok := h.First(); id != 0 || due != 0 || ok {
		t.Errorf("%s: First: %d, %d, %v", what, id, due, ok)
	}
	if id, due, ok := h.Pop(); id != 0 || due != 0 || ok {
		t.Errorf("%s: Pop: %d, %d, %v", what, id, due, ok)
	}
	if n := h.Len(); n != 0 {
		t.Errorf("%s: Len: %d", what, n)
	}
	if l := h.All(); len(l) != 0 {
		t.Errorf("%s: All: %v", what, l)
	}
}

func TestP1201NilHeap(t *testing.T) {
	takesNothing(t, "a nil Heap", nil)
}

func TestP1201HeapsThatNewDidNotMake(t *testing.T) {
	var h Heap
	made := New(20)
	made.Put(3, 9)
	*made = Heap{}
	for what, a := range map[string]*Heap{"the zero Heap": &h, "a new Heap": new(Heap), "a literal": {}, "one that was made zero": made} {
		takesNothing(t, what, a)
		// And once more, as it takes nothing afterwards, too.
		takesNothing(t, what, a)
	}
}

func TestP1202NewAndItsRoom(t *testing.T) {
	rows := []struct{ asked, room int }{
		{math.MinInt, 0}, {math.MinInt + 1, 0}, {-1 << 32, 0}, {-1025, 0}, {-1024, 0}, {-2, 0}, {-1, 0},
		{0, 0}, {1, 1}, {2, 2}, {3, 3}, {255, 255}, {256, 256}, {257, 257}, {1023, 1023}, {1024, 1024},
		{1025, 1024}, {1026, 1024}, {2048, 1024}, {1 << 16, 1024}, {1 << 32, 1024}, {1<<32 + 5, 1024}, {1 << 62, 1024},
		{math.MaxInt - 1, 1024}, {math.MaxInt, 1024},
	}
	for _, r := range rows {
		h := New(r.asked)
		if h == nil {
			t.Fatalf("New(%d): nil", r.asked)
		}
		hasNone(t, "a heap that was just made", h)
		for _, id := range append([]int{r.room - 1, r.room, r.room + 1}, edges...) {
			want := api.ErrArg
			if id >= 0 && id < r.room {
				want = api.ErrNone
			}
			if err := h.Change(id, 5); err != want {
				t.Errorf("New(%d): Change of %d: %d, not %d", r.asked, id, err, want)
			}
		}
		// All that have room go in, and no other one.
		for id := -3; id < r.room+3; id++ {
			want := api.ErrArg
			if id >= 0 && id < r.room {
				want = api.OK
			}
			if err := h.Put(id, -id); err != want {
				t.Errorf("New(%d): Put of %d: %d, not %d", r.asked, id, err, want)
			}
		}
		if n := h.Len(); n != r.room {
			t.Errorf("New(%d): %d went in, not %d", r.asked, n, r.room)
		}
	}
}

func TestP1202NoRoom(t *testing.T) {
	for _, room := range []int{math.MinInt, -1024, -1, 0} {
		takesNothing(t, "a heap without room", New(room))
	}
}

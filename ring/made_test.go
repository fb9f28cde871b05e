package ring_test

import (
	"math"
	"testing"

	"parclose/ring"
)

// things: the zero value, and some others.
func (k of[T]) things() []T {
	var zero T
	return []T{zero, k.make(0), k.make(1), k.make(2), k.make(7)}
}

// takesNothing holds a ring without room, or none at all, to its answers, whatever it is handed.
func (k of[T]) takesNothing(t *testing.T, what string, r *ring.Ring[T]) {
	t.Helper()
	for _, x := range k.things() {
		if r.Push(x) {
			t.Errorf("%s: Push(%v): true", what, x)
		}
		for _, i := range numbers {
			if r.Set(i, x) {
				t.Errorf("%s: Set(%d, %v): true", what, i, x)
			}
		}
		k.hasNone(t, what, r)
		r.Clear()
		k.hasNone(t, what, r)
	}
	if n := r.Room(); n != 0 {
		t.Errorf("%s: Room: %d", what, n)
	}
}

// hasNone holds a ring that none is in to what it tells of it.
func (k of[T]) hasNone(t *testing.T, what string, r *ring.Ring[T]) {
	t.Helper()
	var zero T
	for _, i := range numbers {
		if x, ok := r.At(i); x != zero || ok {
			t.Errorf("%s: At(%d): %v, %v", what, i, x, ok)
		}
	}
	if x, ok := r.Pop(); x != zero || ok {
		t.Errorf("%s: Pop: %v, %v", what, x, ok)
	}
	if n := r.Len(); n != 0 {
		t.Errorf("%s: Len: %d", what, n)
	}
	if l := r.All(); len(l) != 0 {
		t.Errorf("%s: All: %v", what, l)
	}
}

func (k of[T]) none(t *testing.T) {
	k.takesNothing(t, "a nil Ring", nil)
	var r ring.Ring[T]
	made := ring.New[T](20)
	made.Push(k.make(3))
	*made = ring.Ring[T]{}
	for what, a := range map[string]*ring.Ring[T]{"the zero Ring": &r, "a new Ring": new(ring.Ring[T]), "a literal": {}, "one that was made zero": made} {
		// And once more, as it stays so.
		for range 2 {
			k.takesNothing(t, what, a)
		}
	}
}

func TestP1401RingsThatAreNone(t *testing.T) { every(t, kind.none) }

// roomOf holds a ring that was asked to have so much room to the room that it has then.
func (k of[T]) roomOf(t *testing.T, asked, room int) {
	r := ring.New[T](asked)
	if r == nil {
		t.Fatalf("New(%d): nil", asked)
	}
	k.hasNone(t, "a ring that was just made", r)
	b := &both[T]{t: t, r: r, room: room}
	b.lookFar()
	for n := range room + 3 {
		b.push(k.make(n))
		b.place()
	}
	if n := b.r.Len(); n != room {
		t.Errorf("New(%d): %d were taken, not %d", asked, n, room)
	}
	b.lookFar()
	for range room + 3 {
		b.pop()
		b.place()
	}
	b.stop("New")
}

func (k of[T]) rooms(t *testing.T) {
	rows := []struct{ asked, room int }{
		{math.MinInt, 0}, {math.MinInt + 1, 0}, {-1 << 62, 0}, {-1 << 32, 0}, {-4097, 0}, {-4096, 0}, {-2, 0}, {-1, 0},
		{0, 0}, {1, 1}, {2, 2}, {3, 3}, {5, 5}, {8, 8}, {9, 9}, {255, 255}, {256, 256}, {257, 257}, {1000, 1000},
		{2047, 2047}, {2048, 2048}, {2049, 2049}, {4094, 4094}, {4095, 4095}, {4096, 4096},
		{4097, 4096}, {4098, 4096}, {8192, 4096}, {1 << 16, 4096}, {1 << 31, 4096}, {1 << 32, 4096}, {1<<32 + 5, 4096},
		{1 << 62, 4096}, {math.MaxInt - 1, 4096}, {math.MaxInt, 4096},
	}
	for _, r := range rows {
		k.roomOf(t, r.asked, r.room)
	}
	for _, asked := range []int{math.MinInt, -4096, -1, 0} {
		k.takesNothing(t, "a ring without room", ring.New[T](asked))
	}
}

func TestP1402NewAndItsRoom(t *testing.T) { every(t, kind.rooms) }

package ring_test

import (
	"slices"
	"testing"

	"parclose/ring"
)

// shape: a ring that is made by so many pushes, so many pushes and pops by turns, and then pops or pushes till so many are in.
type shape struct{ room, ahead, turns, in int }

// shaped: a ring of a shape.
func (k of[T]) shaped(t *testing.T, s shape) *both[T] {
	b := newBoth[T](t, s.room)
	n := 0
	push := func() {
		b.push(k.make(n))
		n++
	}
	for range s.ahead {
		push()
	}
	for range s.turns {
		b.pop()
		push()
	}
	for len(b.list) > s.in {
		b.pop()
	}
	for len(b.list) < s.in {
		push()
	}
	return b
}

// shapesOf: all ways in which a row lies in a ring of so much room, gone around more than once too.
func shapesOf(room int) []shape {
	var l []shape
	for ahead := range room + 1 {
		for turns := range 2*room + 2 {
			// With none in there is nothing to be popped and pushed by turns.
			if ahead == 0 && turns > 0 {
				break
			}
			for in := range room + 1 {
				l = append(l, shape{room, ahead, turns, in})
			}
		}
	}
	return l
}

// calls: each call by itself, of rings of a shape, each of them made for it.
func (k of[T]) calls(t *testing.T, s shape) {
	fresh := func() *both[T] { return k.shaped(t, s) }
	x := k.make(1000)
	end := func(b *both[T]) {
		b.look()
		// What lies behind is as it was: all of it is popped, and all the room is filled again.
		for range s.in + 1 {
			b.pop()
		}
		for n := range s.room + 1 {
			b.push(k.make(2000 + n))
		}
		b.look()
		if t.Failed() {
			t.Fatalf("shape %+v", s)
		}
	}
	b := fresh()
	b.lookFar()
	end(b)
	b = fresh()
	b.push(x)
	end(b)
	b = fresh()
	b.pop()
	end(b)
	b = fresh()
	b.clear()
	end(b)
	for i := -2; i < s.room+2; i++ {
		b = fresh()
		b.set(i, x)
		end(b)
	}
	b = fresh()
	for _, i := range numbers {
		b.set(i, k.make(3000))
		b.place()
	}
	end(b)
}

func (k of[T]) shapes(t *testing.T) {
	for room := range 6 {
		for _, s := range shapesOf(room) {
			k.calls(t, s)
		}
	}
}

func TestP1402EachCallOfEachShape(t *testing.T) { every(t, kind.shapes) }

func TestP1402EachCallOfGreaterRings(t *testing.T) {
	k := of[int]{number}
	shapes := []shape{
		{16, 3, 40, 3}, {16, 16, 21, 16}, {16, 16, 35, 9}, {17, 5, 30, 17}, {33, 32, 100, 33}, {100, 64, 100, 100}, {100, 65, 333, 1}, {100, 100, 50, 0},
	}
	for _, s := range shapes {
		k.calls(t, s)
	}
}

func TestP1402TheGreatestRoom(t *testing.T) {
	k := of[int]{number}
	shapes := []shape{
		{mostRoom, 0, 0, mostRoom}, {mostRoom, 1, 5000, mostRoom}, {mostRoom, 2500, 9000, mostRoom}, {mostRoom, mostRoom, 10000, mostRoom},
		{mostRoom, mostRoom, 4095, 4095}, {mostRoom, mostRoom, 4097, 1}, {mostRoom, mostRoom, 77, 0}, {mostRoom, 2048, 2049, 2049},
	}
	for _, s := range shapes {
		b := k.shaped(t, s)
		b.lookFar()
		for _, i := range append([]int{s.in - 1, s.in, s.in + 1, s.in / 2}, numbers...) {
			b.set(i, -7)
			b.at(i)
		}
		b.look()
		for range s.in / 3 {
			b.pop()
		}
		for n := range s.in/3 + 2 {
			b.push(-n)
		}
		b.look()
		b.clear()
		b.look()
		for n := range mostRoom + 2 {
			b.push(n)
		}
		b.look()
		b.stop("the greatest room")
	}
}

func TestP1402ARefusedPushChangesNothing(t *testing.T) {
	for _, room := range []int{0, 1, 2, 7, 100, mostRoom} {
		b := newBoth[int](t, room)
		for n := range room {
			b.push(n)
		}
		for range 2*room + 5 {
			b.push(-1)
			b.place()
		}
		b.look()
		for n := range room {
			if x, ok := b.r.Pop(); x != n || !ok {
				t.Errorf("room %d: Pop: %d, %v, not %d", room, x, ok, n)
			}
		}
	}
}

func TestP1402ClearAgainAndAgain(t *testing.T) {
	for _, room := range []int{0, 1, 2, 3, 9, 64} {
		b := newBoth[string](t, room)
		b.clear()
		b.look()
		for in := range room + 1 {
			for popped := range in + 1 {
				for n := range in {
					b.push(text(n))
				}
				for range popped {
					b.pop()
				}
				b.look()
				b.clear()
				b.look()
				b.clear()
				b.look()
				// Of none there is a first one neither to be told nor to be set.
				b.pop()
				b.set(0, "x")
				b.push(text(in))
				b.push(text(popped))
				b.look()
				b.clear()
			}
		}
		b.stop("Clear")
	}
}

func TestP1402TheZeroValueIsAThingToo(t *testing.T) {
	b := newBoth[int](t, 3)
	for range 7 {
		b.push(0)
		b.look()
		b.pop()
		b.look()
		b.push(0)
		b.push(0)
		b.set(1, 0)
		b.look()
		b.pop()
	}
}

func TestP1402ListsAreTakenAsTheyAre(t *testing.T) {
	// What a list tells lies in the room behind it, which a ring doesn't look at.
	r := ring.New[[]int](2)
	a := []int{1, 2}
	r.Push(a)
	r.Push(nil)
	if x, ok := r.At(0); !ok || !slices.Equal(x, []int{1, 2}) {
		t.Errorf("At(0): %v, %v", x, ok)
	}
	if x, ok := r.Pop(); !ok || &x[0] != &a[0] || len(x) != 2 {
		t.Errorf("Pop: %v, %v", x, ok)
	}
	if x, ok := r.Pop(); !ok || x != nil {
		t.Errorf("Pop: %v, %v", x, ok)
	}
	if x, ok := r.Pop(); ok || x != nil {
		t.Errorf("Pop of none: %v, %v", x, ok)
	}
}

func TestP1402TheChaptersExample(t *testing.T) {
	r := ring.New[int](2)
	for x, want := range []bool{true, true, false} {
		if ok := r.Push(x + 1); ok != want {
			t.Errorf("Push(%d): %v", x+1, ok)
		}
	}
	if x, ok := r.Pop(); x != 1 || !ok {
		t.Errorf("Pop: %d, %v", x, ok)
	}
	if !r.Push(3) {
		t.Error("Push(3) behind a Pop: false")
	}
	if l := r.All(); !slices.Equal(l, []int{2, 3}) {
		t.Errorf("All: %v", l)
	}
}

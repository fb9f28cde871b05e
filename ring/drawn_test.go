package ring_test

import (
	"math/rand/v2"
	"testing"

	"parclose/ring"
)

// drawing: what a row of calls is drawn by.
type drawing[T comparable] struct {
	*both[T]
	r *rand.Rand
	k of[T]
	// pushed: how many things were made.
	pushed int
	// share: so many of ten pushes and pops are pushes.
	share int
}

func (k of[T]) newDrawing(t *testing.T, room int, seed uint64) *drawing[T] {
	return &drawing[T]{both: newBoth[T](t, room), r: rand.New(rand.NewPCG(seed, uint64(room))), k: k, share: 5}
}

// next: a thing that was not made before, where the type has so many; now and then the zero value.
func (d *drawing[T]) next() T {
	d.pushed++
	if d.r.IntN(20) == 0 {
		var zero T
		return zero
	}
	return d.k.make(d.pushed)
}

// any: most often a number, or the one next to the numbers.
func (d *drawing[T]) any() int {
	switch d.r.IntN(12) {
	case 0:
		return numbers[d.r.IntN(len(numbers))]
	case 1:
		return len(d.list)
	case 2:
		return len(d.list) - 1
	}
	return d.r.IntN(len(d.list)+2) - 1
}

// call: any one, Clear now and then. What there are more of, pushes or pops, changes from time to time, so that rings come to be full, and empty.
func (d *drawing[T]) call() {
	if d.r.IntN(2*d.room+10) == 0 {
		d.share = []int{0, 2, 5, 8, 10}[d.r.IntN(5)]
	}
	switch d.r.IntN(10) {
	case 0:
		d.at(d.any())
	case 1, 2:
		d.set(d.any(), d.next())
	default:
		if d.r.IntN(5*d.room+60) == 0 {
			d.clear()
		} else if d.r.IntN(10) < d.share {
			d.push(d.next())
		} else {
			d.pop()
		}
	}
	d.place()
}

// calls: so many, with a look at all now and then.
func (d *drawing[T]) calls(count, each int) {
	for i := range count {
		d.call()
		if i%each == 0 {
			d.look()
			d.stop("drawn calls")
		}
	}
	d.lookFar()
	d.stop("drawn calls")
}

func (k of[T]) drawn(t *testing.T) {
	for room := range 18 {
		for seed := range uint64(3) {
			k.newDrawing(t, room, seed).calls(500, 1)
		}
	}
	for _, room := range []int{33, 64, 100} {
		k.newDrawing(t, room, 4).calls(3000, 20)
	}
	k.newDrawing(t, mostRoom, 5).calls(30000, 3000)
}

func TestP1402DrawnRowsOfCalls(t *testing.T) { every(t, kind.drawn) }

func TestP1402LongDrawnRowsOfCalls(t *testing.T) {
	k := of[int]{number}
	for _, room := range []int{0, 1, 2, 3, 8, 50, 257, 1000, mostRoom} {
		for seed := range uint64(3) {
			k.newDrawing(t, room, 10+seed).calls(60000, 50+2*room)
		}
	}
}

// order: what was pushed, and not refused, is popped in that order, each once; without a word of At, Set and All.
func (k of[T]) order(t *testing.T) {
	for _, room := range []int{1, 2, 3, 4, 5, 7, 8, 16, 31, 100, 1000, mostRoom} {
		for _, share := range []int{2, 5, 8} {
			k.orderOf(t, room, share)
		}
	}
}

func (k of[T]) orderOf(t *testing.T, room, share int) {
	draw := rand.New(rand.NewPCG(uint64(room), uint64(share)))
	r := ring.New[T](room)
	var taken []T
	popped, refused := 0, 0
	pop := func() bool {
		x, ok := r.Pop()
		if want := popped < len(taken); ok != want || ok && x != taken[popped] {
			t.Fatalf("room %d: the %dth that is popped is %v, %v", room, popped, x, ok)
		}
		if ok {
			popped++
		}
		return ok
	}
	steps := 10*room + 500
	for i := range steps {
		now := share
		// By turns till it is full, and till it is empty.
		if i/(2*room+1)%2 == 1 {
			now = 10 - share
		}
		if draw.IntN(10) >= now {
			pop()
			continue
		}
		if x := k.make(i); r.Push(x) {
			taken = append(taken, x)
		} else {
			refused++
		}
		if in := len(taken) - popped; in > room || refused > 0 && in < 0 {
			t.Fatalf("room %d: %d are in", room, in)
		}
	}
	for pop() {
	}
	if popped != len(taken) || len(taken)+refused > steps {
		t.Errorf("room %d: of %d that were taken %d were popped", room, len(taken), popped)
	}
}

func TestP1403WhatWasPushedIsPoppedInThatOrder(t *testing.T) { every(t, kind.order) }

func TestP1403FarLongerThanTheRoom(t *testing.T) {
	for _, room := range []int{1, 2, 3, 8, 9, 100, mostRoom} {
		draw := rand.New(rand.NewPCG(7, uint64(room)))
		r := ring.New[int](room)
		next, first, turns := 0, 0, 0
		for first < 40*room+5000 {
			turns++
			// A number of pushes in a row, and one of pops.
			for range draw.IntN(room + 2) {
				full := next-first == room
				if ok := r.Push(next); ok == full {
					t.Fatalf("room %d: Push, with %d in: %v", room, next-first, ok)
				}
				if !full {
					next++
				}
			}
			for range draw.IntN(room + 2) {
				x, ok := r.Pop()
				if some := first < next; ok != some || ok && x != first || !ok && x != 0 {
					t.Fatalf("room %d: Pop, with %d in: %d, %v, not %d", room, next-first, x, ok, first)
				}
				if ok {
					first++
				}
			}
			if n := r.Len(); n != next-first {
				t.Fatalf("room %d: Len: %d, not %d", room, n, next-first)
			}
		}
	}
}

package ring_test

import (
	"math/rand/v2"
	"reflect"
	"runtime"
	"slices"
	"sync"
	"testing"

	"parclose/ring"
)

// some: shapes of rings with none, one, some and as many as their room, gone around and not.
func some() []shape {
	return []shape{
		{0, 0, 0, 0}, {1, 0, 0, 0}, {1, 1, 0, 1}, {1, 1, 3, 1}, {4, 0, 0, 0}, {4, 0, 0, 1}, {4, 0, 0, 3}, {4, 0, 0, 4},
		{4, 2, 3, 2}, {4, 4, 2, 4}, {4, 4, 7, 3}, {9, 5, 6, 5}, {9, 9, 30, 9}, {40, 20, 33, 17}, {40, 40, 33, 40},
	}
}

// lists: one that All told is the caller's.
func (k of[T]) lists(t *testing.T) {
	for _, s := range some() {
		b := k.shaped(t, s)
		told := b.r.All()
		for i := range told {
			told[i] = k.make(5000 + i)
		}
		b.look()
		// And the room behind it.
		clear(told[:cap(told)])
		_ = append(told, k.make(77))
		b.look()
		kept, again := b.r.All(), b.r.All()
		want := slices.Clone(b.list)
		for i := range b.list {
			b.set(i, k.make(6000+i))
		}
		for n := range s.room + 1 {
			b.pop()
			b.push(k.make(7000 + n))
		}
		b.clear()
		for n := range s.room + 1 {
			b.push(k.make(8000 + n))
		}
		b.look()
		if !slices.Equal(kept, want) || !slices.Equal(again, want) {
			t.Errorf("shape %+v: what was told, %v, is %v, and %v now", s, want, kept, again)
		}
		b.stop("lists")
	}
}

func TestP1401AListThatAllToldIsTheCallers(t *testing.T) { every(t, kind.lists) }

// apart: what is done to a ring is not to be seen in another one.
func (k of[T]) apart(t *testing.T) {
	var l []*both[T]
	for _, s := range some() {
		l = append(l, k.shaped(t, s), k.shaped(t, s), newBoth[T](t, s.room))
	}
	// Calls of one, and all of them are looked at.
	for i, b := range l {
		b.push(k.make(100 + i))
		b.set(i%4, k.make(200+i))
		switch i % 3 {
		case 0:
			b.pop()
		case 1:
			b.clear()
		}
		for _, other := range l {
			other.look()
		}
		b.stop("apart")
	}
}

func TestP1401RingsAreApart(t *testing.T) { every(t, kind.apart) }

// rooms: the memory that lies behind a value, list by list, and what it points at.
func rooms(v reflect.Value, l [][2]uintptr) [][2]uintptr {
	add := func(from uintptr, size uintptr) {
		// Of no bytes nothing can be shared.
		if size > 0 {
			l = append(l, [2]uintptr{from, from + size})
		}
	}
	switch v.Kind() {
	case reflect.Pointer:
		if !v.IsNil() {
			add(uintptr(v.UnsafePointer()), v.Type().Elem().Size())
			l = rooms(v.Elem(), l)
		}
	case reflect.Slice:
		add(uintptr(v.UnsafePointer()), uintptr(v.Cap())*v.Type().Elem().Size())
		all := v.Slice(0, v.Cap())
		for i := range all.Len() {
			l = rooms(all.Index(i), l)
		}
	case reflect.Struct:
		for i := range v.NumField() {
			l = rooms(v.Field(i), l)
		}
	}
	return l
}

func TestP1401RingsAndListsShareNothing(t *testing.T) {
	// Kept, as the memory of what is let go may rightly be that of a later one.
	var kept []*ring.Ring[int]
	var lists [][]int
	k := of[int]{number}
	for range 3 {
		for _, s := range some() {
			b := k.shaped(t, s)
			kept = append(kept, b.r)
			lists = append(lists, b.r.All(), b.r.All())
			b.push(-1)
			lists = append(lists, b.r.All())
			b.pop()
			b.pop()
			lists = append(lists, b.r.All())
		}
	}
	var all [][2]uintptr
	for _, r := range kept {
		all = rooms(reflect.ValueOf(r), all)
	}
	for _, l := range lists {
		all = rooms(reflect.ValueOf(l), all)
	}
	slices.SortFunc(all, func(a, b [2]uintptr) int { return slices.Compare(a[:], b[:]) })
	for i := 1; i < len(all); i++ {
		if all[i][0] < all[i-1][1] {
			t.Error("two rings, or lists, share memory")
		}
	}
	runtime.KeepAlive(kept)
	runtime.KeepAlive(lists)
}

// keeps: does a ring still lead to a thing?
func keeps(r *ring.Ring[*thing], x *thing) bool {
	at := uintptr(reflect.ValueOf(x).UnsafePointer())
	return slices.ContainsFunc(rooms(reflect.ValueOf(r), nil), func(a [2]uintptr) bool { return a[0] == at })
}

func TestP1401WhatIsOutIsKeptNoMore(t *testing.T) {
	k := of[*thing]{pointer}
	for _, s := range some() {
		b := k.shaped(t, s)
		held := func(l []*thing, want bool) {
			for _, x := range l {
				if keeps(b.r, x) != want {
					t.Errorf("shape %+v: a thing that was in is kept: %v", s, !want)
				}
			}
		}
		in := slices.Clone(b.list)
		held(in, true)
		// Popped ones, those that others were set for, and those that were in when it was cleared.
		half := len(in) / 2
		for range half {
			b.pop()
		}
		held(in[:half], false)
		held(in[half:], true)
		if half < len(in) {
			b.set(0, pointer(1))
			held(in[:half+1], false)
			held(in[half+1:], true)
		}
		in = append(in, b.list...)
		b.clear()
		held(in, false)
		if s.in == s.room {
			full := k.shaped(t, s)
			x := pointer(9)
			full.push(x)
			if keeps(full.r, x) {
				t.Errorf("shape %+v: a thing that was refused is kept", s)
			}
		}
	}
}

func TestP1401ARoomThatIsNotFilledTakesNoMemory(t *testing.T) {
	type great [1 << 16]byte
	var ahead, behind runtime.MemStats
	runtime.ReadMemStats(&ahead)
	r := ring.New[great](mostRoom)
	for range 3 {
		r.Push(great{1})
	}
	runtime.ReadMemStats(&behind)
	// The whole room of these would take 256 MiB.
	if taken := behind.TotalAlloc - ahead.TotalAlloc; taken > 1<<24 {
		t.Errorf("%d bytes were taken for three things", taken)
	}
	if r.Len() != 3 || r.Room() != mostRoom {
		t.Errorf("Len, Room: %d, %d", r.Len(), r.Room())
	}
}

func TestP1401EachOfManyHasItsOwnRing(t *testing.T) {
	var group sync.WaitGroup
	k := of[int]{number}
	for seed := range uint64(16) {
		group.Go(func() {
			d := k.newDrawing(t, 12, 300+seed)
			for range 500 {
				d.call()
				d.look()
			}
		})
	}
	group.Wait()
}

func TestP1401ManyAskOneRing(t *testing.T) {
	// What tells, and changes nothing, may be asked at the same time.
	k := of[string]{text}
	b := k.shaped(t, shape{9, 9, 30, 8})
	var group sync.WaitGroup
	for seed := range uint64(8) {
		group.Go(func() {
			draw := rand.New(rand.NewPCG(seed, 1))
			for range 200 {
				b.at(draw.IntN(12) - 2)
				b.look()
			}
		})
	}
	group.Wait()
}

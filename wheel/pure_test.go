package wheel_test

import (
	"reflect"
	"runtime"
	"slices"
	"sync"
	"testing"

	"parclose/wheel"
)

// wheels: chosen ones, at start: none, one, many of one tick, rising, falling, and in all levels.
func wheels(start int) [][]timer {
	l := [][]timer{nil, {{0, start + 1}}, {{255, start + 20}}, {{3, start + 2}, {1, start + 2}, {2, start + 1}}}
	var same, rising, falling, across, far []timer
	for id := range 12 {
		same = append(same, timer{11 - id, start + 3})
		rising = append(rising, timer{id, start + 1 + 7*id})
		falling = append(falling, timer{id, start + 90 - 7*id})
		across = append(across, timer{id * 5 % 12, start + 1 + id%3})
		far = append(far, timer{id * 7 % 12, start + 1<<(4*id)})
	}
	return append(l, same, rising, falling, across, far)
}

func TestP1301AListThatGoToldIsTheCallers(t *testing.T) {
	for _, l := range wheels(250) {
		b := of(t, 250, l...)
		for range 120 {
			told, want := b.w.Go(), b.p.step()
			if !slices.Equal(told, want) {
				t.Errorf("Go to %d: %v, not %v", b.p.now, told, want)
			}
			for i := range told {
				told[i] = 7
			}
			// And the room behind it.
			all := told[:cap(told)]
			for i := range all {
				all[i] = 9
			}
			_ = append(told, 77)
			b.look()
		}
	}
}

func TestP1301WhatGoToldStays(t *testing.T) {
	b := newBoth(t, 0)
	var told, wants [][]int
	for range 300 {
		for id := range 20 {
			b.set(id*11%256, b.p.now+1+id%4)
		}
		come, want := b.w.Go(), b.p.step()
		told, wants = append(told, come), append(wants, want)
	}
	for i, want := range wants {
		if !slices.Equal(told[i], want) {
			t.Errorf("what was told of tick %d is %v now, not %v", i+1, told[i], want)
		}
	}
}

// rooms: the memory that lies behind a value, list by list, and what it points at.
func rooms(v reflect.Value, l [][2]uintptr) [][2]uintptr {
	add := func(from uintptr, size uintptr) {
		// Of no bytes nothing can be shared.
		if size > 0 {
			l = append(l, [2]uintptr{from, from + size})
		}
	}
	switch v.Kind() {
	case reflect.Pointer:
		if !v.IsNil() {
			add(uintptr(v.UnsafePointer()), v.Type().Elem().Size())
			l = rooms(v.Elem(), l)
		}
	case reflect.Slice:
		add(uintptr(v.UnsafePointer()), uintptr(v.Cap())*v.Type().Elem().Size())
	case reflect.Struct:
		for i := range v.NumField() {
			l = rooms(v.Field(i), l)
		}
	case reflect.Array:
		for i := range v.Len() {
			l = rooms(v.Index(i), l)
		}
	}
	return l
}

// shared: do two of these lie in the same memory?
func shared(all [][2]uintptr) bool {
	slices.SortFunc(all, func(a, b [2]uintptr) int { return slices.Compare(a[:], b[:]) })
	for i := 1; i < len(all); i++ {
		if all[i][0] < all[i-1][1] {
			return true
		}
	}
	return false
}

func TestP1301WheelsAndListsShareNothing(t *testing.T) {
	// Kept, as the memory of what is let go may rightly be that of a later one.
	var kept []*wheel.Wheel
	var lists [][]int
	for range 3 {
		for _, l := range wheels(0) {
			b := of(t, 0, l...)
			kept = append(kept, b.w)
			for range 100 {
				lists = append(lists, b.w.Go())
			}
			for id := range 256 {
				b.w.Set(id, 101+id%9)
			}
			for range 5 {
				lists = append(lists, b.w.Go())
			}
		}
	}
	var all [][2]uintptr
	for _, w := range kept {
		all = rooms(reflect.ValueOf(w), all)
	}
	for _, l := range lists {
		all = rooms(reflect.ValueOf(l), all)
	}
	if shared(all) {
		t.Error("two wheels, or lists, share memory")
	}
	runtime.KeepAlive(kept)
	runtime.KeepAlive(lists)
}

func TestP1301WheelsAreApart(t *testing.T) {
	var l []*both
	for _, list := range wheels(9) {
		l = append(l, of(t, 9, list...), of(t, 9, list...), newBoth(t, 9))
	}
	// Calls of one, and all of them are looked at.
	for i, b := range l {
		b.set(11-i%3, 10+i)
		b.set(i, 300+i)
		b.cancel((i + 4) % 12)
		for range i {
			b.step()
		}
		for _, other := range l {
			other.look()
		}
	}
}

func TestP1301EachOfManyHasItsOwnWheel(t *testing.T) {
	var group sync.WaitGroup
	for seed := range uint64(16) {
		group.Go(func() {
			d := newDrawing(t, 1<<20-100, 40, seed)
			for range 300 {
				d.call(16)
				d.look()
			}
		})
	}
	group.Wait()
}

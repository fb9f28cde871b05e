package heap

import (
	"reflect"
	"runtime"
	"slices"
	"sync"
	"testing"
)

func TestP1201AListThatAllToldIsTheCallers(t *testing.T) {
	for _, l := range heaps() {
		b := of(t, 12, l...)
		told := b.h.All()
		for i := range told {
			told[i] = -1
		}
		// And the room behind it.
		clear(told[:cap(told)])
		_ = append(told, 77)
		b.look()
		kept := b.h.All()
		want := slices.Clone(kept)
		b.put(11, -5)
		b.change(3, 1<<40)
		b.popAll()
		for id := range 12 {
			b.put(id, id)
		}
		if !slices.Equal(kept, want) {
			t.Errorf("what was told, %v, is %v now", want, kept)
		}
	}
}

// rooms: the memory that lies behind a value, list by list, and what it points at.
func rooms(v reflect.Value, l [][2]uintptr) [][2]uintptr {
	add := func(from uintptr, size uintptr) {
		// Of no bytes nothing can be shared.
		if size > 0 {
			l = append(l, [2]uintptr{from, from + size})
		}
	}
	switch v.Kind() {
	case reflect.Pointer:
		if !v.IsNil() {
			add(uintptr(v.UnsafePointer()), v.Type().Elem().Size())
			l = rooms(v.Elem(), l)
		}
	case reflect.Slice:
		add(uintptr(v.UnsafePointer()), uintptr(v.Cap())*v.Type().Elem().Size())
	case reflect.Struct:
		for i := range v.NumField() {
			l = rooms(v.Field(i), l)
		}
	}
	return l
}

func TestP1201HeapsAndListsShareNothing(t *testing.T) {
	// Kept, as the memory of what is let go may rightly be that of a later one.
	var kept []*Heap
	var lists [][]int
	var all [][2]uintptr
	for range 3 {
		for _, l := range heaps() {
			b := of(t, 12, l...)
			kept = append(kept, b.h)
			for range 2 {
				told := b.h.All()
				lists = append(lists, told)
				all = rooms(reflect.ValueOf(told), all)
			}
			all = rooms(reflect.ValueOf(b.h), all)
			b.popAll()
			told := b.h.All()
			lists = append(lists, told)
			all = rooms(reflect.ValueOf(told), all)
		}
	}
	for i, a := range all {
		for _, b := range all[:i] {
			if a[0] < b[1] && b[0] < a[1] {
				t.Error("two heaps, or lists, share memory")
			}
		}
	}
	runtime.KeepAlive(kept)
	runtime.KeepAlive(lists)
}

func TestP1201HeapsAreApart(t *testing.T) {
	var l []*both
	for _, list := range heaps() {
		l = append(l, of(t, 12, list...), of(t, 12, list...), newBoth(t, 12))
	}
	// A call of one, and all of them are looked at.
	for i, b := range l {
		b.put(11-i%3, i)
		b.change(i%12, -i)
		b.remove((i + 4) % 12)
		if i%2 == 0 {
			b.pop()
		}
		for _, other := range l {
			other.look()
		}
	}
}

func TestP1201EachOfManyHasItsOwnHeap(t *testing.T) {
	var group sync.WaitGroup
	for seed := range uint64(16) {
		group.Go(func() {
			d := newDrawing(t, 12, 5, 300+seed)
			for range 200 {
				d.call(true)
				d.look()
			}
		})
	}
	group.Wait()
}

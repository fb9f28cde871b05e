package valid

import (
	"reflect"
	"sync"
	"testing"

	"parclose/api"
	"parclose/conf"
	"parclose/frame"
)

// roomy: the same list, with two more in the room behind it.
func roomy[T any](l []T, behind T) []T {
	whole := append(make([]T, 0, len(l)+2), l...)
	return append(whole, behind, behind)[:len(l)]
}

// withRoom: a system that is the same, with room behind each of its lists.
func withRoom(c conf.Config) conf.Config {
	c.Windows = roomy(c.Windows, conf.Window{At: 71, Len: 72, Part: 73})
	c.Parts = roomy(c.Parts, conf.Part{Donees: []int{74}, Acts: [3]uint8{7, 6, 5}})
	c.Chans = roomy(c.Chans, conf.Channel{From: 75, To: 76, Size: 77})
	for p := range c.Parts {
		a := &c.Parts[p]
		a.Tasks = roomy(a.Tasks, conf.Task{T: 78, D: 79})
		a.Servers = roomy(a.Servers, conf.Server{C: 80, T: 81})
		a.Donees = roomy(a.Donees, 82)
	}
	return c
}

// reach: all of a system, with the room behind each list.
func reach(c conf.Config) conf.Config {
	c.Windows = c.Windows[:cap(c.Windows)]
	c.Chans = c.Chans[:cap(c.Chans)]
	parts := c.Parts[:cap(c.Parts)]
	c.Parts = nil
	for _, a := range parts {
		a.Tasks = a.Tasks[:cap(a.Tasks)]
		a.Servers = a.Servers[:cap(a.Servers)]
		a.Donees = a.Donees[:cap(a.Donees)]
		c.Parts = append(c.Parts, a)
	}
	return conf.Clone(c)
}

func TestP601WhatIsHandedInIsLeftAlone(t *testing.T) {
	spoilt := []conf.Config{{}, small(), full()}
	for _, g := range groups() {
		for _, f := range g {
			c := full()
			f.do(&c)
			spoilt = append(spoilt, c)
		}
	}
	for i, c := range spoilt {
		handed := withRoom(c)
		before, seen := reach(handed), conf.Clone(handed)
		err, at := Check(handed)
		first := Table(handed)
		again, place := Check(handed)
		if second := Table(handed); (first == nil) != (second == nil) || err != again || at != place {
			t.Errorf("system %d: a second answer is another one", i)
		}
		if !conf.Same(reach(handed), before) || !conf.Same(handed, seen) {
			t.Errorf("system %d is another one now, or the room behind it", i)
		}
		if want := wanted(c); err != want.err || at != want.at {
			t.Errorf("system %d, with room: error %d at %d, not %d at %d", i, err, at, want.err, want.at)
		}
	}
}

func TestP601NilListsAreLeftNil(t *testing.T) {
	c := conf.Config{Frame: 10, Parts: make([]conf.Part, 2)}
	want := conf.Config{Frame: 10, Parts: make([]conf.Part, 2)}
	if err, _ := Check(c); err != api.OK || Table(c) == nil || !reflect.DeepEqual(c, want) {
		t.Errorf("error %d, and the system is %v now", err, c)
	}
}

func TestP601ATableDoesNotSeeWhatIsChangedLater(t *testing.T) {
	for _, make := range []func() conf.Config{small, full} {
		c := withRoom(make())
		table := Table(c)
		windows := c.Windows[:cap(c.Windows)]
		for i := range windows {
			windows[i] = conf.Window{At: i, Len: 1, Part: 5}
		}
		clear(c.Parts)
		holds(t, "a system that is another one now", table, make())
	}
}

// rooms: the memory of all lists in a value, from where to where, with the room behind them.
func rooms(v reflect.Value) (l [][2]uintptr) {
	switch v.Kind() {
	case reflect.Pointer:
		if !v.IsNil() {
			l = rooms(v.Elem())
		}
	case reflect.Struct:
		for i := range v.NumField() {
			l = append(l, rooms(v.Field(i))...)
		}
	case reflect.Slice:
		from := uintptr(v.UnsafePointer())
		if to := from + uintptr(v.Cap())*v.Type().Elem().Size(); to > from {
			l = append(l, [2]uintptr{from, to})
		}
		for i := range v.Len() {
			l = append(l, rooms(v.Index(i))...)
		}
	}
	return l
}

func TestP601TablesShareNothing(t *testing.T) {
	for _, c := range []conf.Config{small(), full(), {Frame: 1, Windows: make([]conf.Window, 0, 5), Parts: make([]conf.Part, 1)}} {
		one, other := Table(c), Table(c)
		if one == other {
			t.Error("two answers are one table")
		}
		l := append(rooms(reflect.ValueOf(one)), rooms(reflect.ValueOf(other))...)
		l = append(l, rooms(reflect.ValueOf(c))...)
		for i, a := range l {
			for _, b := range l[:i] {
				if a[0] < b[1] && b[0] < a[1] {
					t.Error("two lists share memory")
				}
			}
		}
	}
}

func TestP601AnswersDoNotHangOnEachOther(t *testing.T) {
	a, b := small(), full()
	first := Table(a)
	second := Table(b)
	b.Windows[3].Part = 6
	checks(t, "one that is spoilt", b, told{api.ErrWindow, 3})
	checks(t, "another one", a, told{api.OK, 0})
	holds(t, "the first", first, small())
	holds(t, "the second", second, full())
}

func TestP601AskedByManyAtOnce(t *testing.T) {
	good, bad := full(), full()
	bad.Chans[7].Size = 0
	var group sync.WaitGroup
	tables := make([]*frame.Table, 16)
	for i := range tables {
		group.Go(func() {
			for range 50 {
				checks(t, "one that may be", good, told{api.OK, 0})
				checks(t, "one that may not be", bad, told{api.ErrChannel, 7})
				tables[i] = Table(good)
			}
		})
	}
	group.Wait()
	for _, table := range tables {
		holds(t, "of many", table, good)
	}
}

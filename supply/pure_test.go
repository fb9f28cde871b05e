package supply

import (
	"reflect"
	"runtime"
	"slices"
	"sync"
	"testing"

	"parclose/conf"
	"parclose/frame"
)

// told: all that a supply answers of some numbers.
func told(s *Supply, numbers []int) []int {
	var l []int
	for _, n := range numbers {
		wait, ok := s.Wait(n)
		if ok {
			l = append(l, 1)
		}
		l = append(l, s.Least(n), s.Worst(n), wait)
	}
	open, all := s.Rate()
	return append(l, open, all)
}

// asked: all that a table answers of some numbers.
func asked(t *frame.Table) []int {
	l := []int{t.Frame()}
	for _, n := range edges {
		p, kind := t.Owner(n)
		l = append(l, p, kind)
	}
	for p := range 6 {
		l = append(l, t.Offered(p))
		for _, n := range edges {
			next, _ := t.Next(p, n)
			l = append(l, t.Count(p, 3, n), next)
		}
	}
	return l
}

// roomy: the same windows, with room behind them that is filled.
func roomy(l []conf.Window) []conf.Window {
	whole := append(make([]conf.Window, 0, len(l)+2), l...)
	return append(whole, conf.Window{At: 1, Len: 2, Part: 3}, conf.Window{At: 4, Len: 5, Part: 0})[:len(l)]
}

func TestP801WhatIsHandedInIsLeftAlone(t *testing.T) {
	for _, s := range shapes() {
		list := roomy(s.list)
		before := slices.Clone(list[:cap(list)])
		table, same := frame.New(s.frame, s.margin, list...), tableOf(t, s)
		answers := asked(table)
		for _, p := range []int{-1, 0, 1, 2, 3, 4, 5, 6} {
			told(Of(table, p), edges)
		}
		if !reflect.DeepEqual(table, same) || !slices.Equal(asked(table), answers) {
			t.Errorf("%v: the table is another one now", s)
		}
		if !slices.Equal(list[:cap(list)], before) {
			t.Errorf("%v: the windows are %v now", s, list[:cap(list)])
		}
	}
}

func TestP801WhatIsAskedChangesNothing(t *testing.T) {
	each(t, func(s shape, p int) {
		a, b := made(t, s, p), made(t, s, p)
		first := told(a, edges)
		for range 2 {
			if l := told(a, edges); !slices.Equal(l, first) {
				t.Errorf("%v: of %d it is %v, and was %v", s, p, l, first)
			}
		}
		back := slices.Clone(edges)
		slices.Reverse(back)
		told(a, back)
		if l := told(a, edges); !slices.Equal(l, first) || !reflect.DeepEqual(a, b) {
			t.Errorf("%v: of %d it is %v, and was %v", s, p, l, first)
		}
	})
}

func TestP801ASupplyDoesNotSeeWhatIsChangedLater(t *testing.T) {
	list := roomy(example().list)
	table := frame.New(10, 0, list...)
	a := Of(table, 0)
	first := told(a, edges)
	clear(list[:cap(list)])
	*table = *tableOf(t, full())
	if l := told(a, edges); !slices.Equal(l, first) {
		t.Errorf("it is %v, and was %v", l, first)
	}
	*table = frame.Table{}
	if l := told(a, edges); !slices.Equal(l, first) {
		t.Errorf("it is %v, and was %v", l, first)
	}
}

// rooms: the memory that lies behind a value, list by list, and what it points at.
func rooms(v reflect.Value, l [][2]uintptr) [][2]uintptr {
	switch v.Kind() {
	case reflect.Pointer:
		if !v.IsNil() {
			from := uintptr(v.UnsafePointer())
			l = rooms(v.Elem(), append(l, [2]uintptr{from, from + v.Type().Elem().Size()}))
		}
	case reflect.Slice:
		from := uintptr(v.UnsafePointer())
		l = append(l, [2]uintptr{from, from + uintptr(v.Cap())*v.Type().Elem().Size()})
	case reflect.Struct:
		for i := range v.NumField() {
			l = rooms(v.Field(i), l)
		}
	}
	return l
}

func TestP801SuppliesShareNothing(t *testing.T) {
	for _, s := range shapes() {
		table := tableOf(t, s)
		all := rooms(reflect.ValueOf(table), nil)
		// Kept, as the memory of what is let go may rightly be that of a later one.
		var kept []*Supply
		for p := range 6 {
			for range 2 {
				kept = append(kept, Of(table, p))
				all = rooms(reflect.ValueOf(kept[len(kept)-1]), all)
			}
		}
		for i, a := range all {
			for _, b := range all[:i] {
				if a[0] < b[1] && b[0] < a[1] {
					t.Errorf("%v: two supplies share memory", s)
				}
			}
		}
		runtime.KeepAlive(kept)
		runtime.KeepAlive(table)
	}
}

func TestP801SuppliesAreApart(t *testing.T) {
	table, other := tableOf(t, full()), tableOf(t, example())
	var l []*Supply
	var first [][]int
	for p := range 6 {
		for _, from := range []*frame.Table{table, other} {
			a := Of(from, p)
			l, first = append(l, a), append(first, told(a, edges))
		}
	}
	for i, a := range l {
		if again := told(a, edges); !slices.Equal(again, first[i]) {
			t.Errorf("the one of place %d is %v, and was %v", i, again, first[i])
		}
	}
}

func TestP801AskedByManyAtOnce(t *testing.T) {
	table := tableOf(t, full())
	a := Of(table, 2)
	want := told(a, edges)
	var group sync.WaitGroup
	for range 16 {
		group.Go(func() {
			for range 20 {
				if l := told(a, edges); !slices.Equal(l, want) {
					t.Errorf("of many: it is %v, not %v", l, want)
				}
			}
			if l := told(Of(table, 2), edges); !slices.Equal(l, want) {
				t.Errorf("of many: a new one is %v, not %v", l, want)
			}
		})
	}
	group.Wait()
}

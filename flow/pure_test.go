package flow

import (
	"reflect"
	"runtime"
	"slices"
	"sync"
	"testing"

	"parclose/conf"
)

// roomy: the same list, with two more in the room behind it.
func roomy[T any](l []T, behind T) []T {
	whole := append(make([]T, 0, len(l)+2), l...)
	return append(whole, behind, behind)[:len(l)]
}

// withRoom: a system that is the same, with room behind the lists that edges are made of. What lies there would be edges.
func withRoom(c conf.Config) conf.Config {
	c.Parts = roomy(c.Parts, conf.Part{Donees: []int{0, 1, 2}})
	c.Chans = roomy(c.Chans, conf.Channel{From: 2, To: 0})
	for p := range c.Parts {
		c.Parts[p].Donees = roomy(c.Parts[p].Donees, 1)
	}
	return c
}

// reach: all of a system, with the room behind these lists.
func reach(c conf.Config) conf.Config {
	c.Chans = c.Chans[:cap(c.Chans)]
	parts := c.Parts[:cap(c.Parts)]
	c.Parts = nil
	for _, a := range parts {
		a.Donees = a.Donees[:cap(a.Donees)]
		c.Parts = append(c.Parts, a)
	}
	return conf.Clone(c)
}

func TestP701WhatIsHandedInIsLeftAlone(t *testing.T) {
	each(func(what string, c conf.Config, l []int) {
		handed, list := withRoom(c), roomy(l, 1)
		before, listBefore := reach(handed), slices.Clone(list[:cap(list)])
		holds(t, what, handed, list)
		if !conf.Same(reach(handed), before) {
			t.Errorf("%s is another one now, or the room behind its lists", what)
		}
		if !slices.Equal(list[:cap(list)], listBefore) {
			t.Errorf("%s: the list %v is %v now", what, listBefore, list[:cap(list)])
		}
	})
}

func TestP701NilListsAreLeftNil(t *testing.T) {
	c := parts(3, []int{}, nil)
	want := parts(3, []int{}, nil)
	holds(t, "nil lists", c, nil, []int{}, []int{1})
	if !reflect.DeepEqual(c, want) {
		t.Errorf("the system is %v now", c)
	}
}

// room: the memory of a list, with what is behind it.
func room(l any) [2]uintptr {
	v := reflect.ValueOf(l)
	from := uintptr(v.UnsafePointer())
	return [2]uintptr{from, from + uintptr(v.Cap())*v.Type().Elem().Size()}
}

// rooms: the memory of the lists that edges are made of.
func rooms(c conf.Config) [][2]uintptr {
	l := [][2]uintptr{room(c.Parts), room(c.Chans)}
	for _, a := range c.Parts {
		l = append(l, room(a.Donees))
	}
	return l
}

func TestP701AnswersShareNothing(t *testing.T) {
	each(func(what string, c conf.Config, l []int) {
		c, l = withRoom(c), roomy(l, 1)
		all := append(rooms(c), room(l))
		// Kept, as the memory of what is let go may rightly be that of a later answer.
		var kept []any
		for range 2 {
			edges, into, cut := Edges(c), Into(c, l...), Cut(c, l...)
			kept = append(kept, edges, into, cut)
			all = append(all, room(edges), room(into), room(cut))
		}
		for i, a := range all {
			for _, b := range all[:i] {
				if a[0] < b[1] && b[0] < a[1] {
					t.Errorf("%s: two lists share memory", what)
				}
			}
		}
		runtime.KeepAlive(kept)
	})
}

func TestP701AnswersStayWhenOthersChange(t *testing.T) {
	c, l := withRoom(example()), []int{2, 3}
	all, into, cut := Edges(c), Into(c, l...), Cut(c, l...)
	spoiltEdges, spoiltInto, spoiltCut := Edges(c), Into(c, l...), Cut(c, l...)
	clear(spoiltEdges[:cap(spoiltEdges)])
	clear(spoiltInto[:cap(spoiltInto)])
	clear(spoiltCut[:cap(spoiltCut)])
	holds(t, "behind spoilt answers", c, l)
	clear(l)
	clear(c.Parts[:cap(c.Parts)])
	clear(c.Chans[:cap(c.Chans)])
	if !slices.Equal(all, wantedEdges(example())) || !slices.Equal(into, upTo(3)) || !slices.Equal(cut, []bool{true, true, true, true}) {
		t.Errorf("%v, %v and %v behind a change of what was handed in", all, into, cut)
	}
	// A channel of zeros leads from 0 to 0.
	edgesAre(t, "a system that is another one now", c, Edge{0, 0})
}

func TestP701AnswersDoNotHangOnEachOther(t *testing.T) {
	a, b := example(), chain(4, true)
	for range 3 {
		holds(t, "the example", a, []int{0}, []int{1, 2})
		holds(t, "a ring", b, []int{0}, []int{1, 2})
		holds(t, "none", conf.Config{}, []int{0})
	}
}

func TestP701AskedByManyAtOnce(t *testing.T) {
	c, l := withRoom(example()), roomy([]int{2}, 1)
	var group sync.WaitGroup
	for range 16 {
		group.Go(func() {
			for range 50 {
				edgesAre(t, "of many", c, Edge{0, 1}, Edge{1, 2}, Edge{1, 3}, Edge{2, 3})
				intoIs(t, "of many", c, l, 0, 1, 2)
				if !Reaches(c, 0, 3) || Reaches(c, 3, 0) {
					t.Error("of many: 0 and 3")
				}
			}
		})
	}
	group.Wait()
}

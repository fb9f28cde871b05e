package demand

import (
	"reflect"
	"runtime"
	"slices"
	"sync"
	"testing"

	"parclose/conf"
)

// numbers: ticks that a whole partition is asked of.
var numbers = []int{-1 << 62, -1, 0, 1, 5, 6, 10, 37, 500, 1000, 1001, 4000, far, 1 << 62}

// told: all that is answered of a partition.
func told(a conf.Part) [][]int {
	var l [][]int
	for _, n := range numbers {
		l = append(l, []int{Low(a, n), High(a, n), Rate(n, a, false), Rate(n, a, true)}, Steps(a, min(n, 3000), false), Steps(a, min(n, 3000), true))
		var each []int
		for _, k := range a.Tasks {
			each = append(each, Of(k, n, false), Of(k, n, true))
		}
		for _, s := range a.Servers {
			each = append(each, Serve(s, n))
		}
		l = append(l, each)
	}
	return l
}

func sameTold(a, b [][]int) bool {
	return slices.EqualFunc(a, b, func(x, y []int) bool { return slices.Equal(x, y) })
}

// withRoom: the same list with room behind it, that others fill.
func withRoom[E any](l []E, others ...E) []E {
	return append(append(make([]E, 0, len(l)+len(others)), l...), others...)[:len(l)]
}

func roomy(a conf.Part) conf.Part {
	a.Tasks = withRoom(a.Tasks, example(), low(3, 2, 1))
	a.Servers = withRoom(a.Servers, conf.Server{C: 2, T: 9}, conf.Server{Refill: true, C: 1, T: 2})
	a.Donees = withRoom(a.Donees, 4, 5, 6)
	return a
}

// whole: all of a partition, and the room behind its lists.
func whole(a conf.Part) conf.Part {
	a.Tasks, a.Servers, a.Donees = a.Tasks[:cap(a.Tasks)], a.Servers[:cap(a.Servers)], a.Donees[:cap(a.Donees)]
	return a
}

func copied(a conf.Part) conf.Part {
	a.Tasks, a.Servers, a.Donees = slices.Clone(a.Tasks), slices.Clone(a.Servers), slices.Clone(a.Donees)
	return a
}

func TestP901WhatIsHandedInIsLeftAlone(t *testing.T) {
	for _, a := range parts() {
		handed := roomy(a)
		before := copied(whole(handed))
		answers := told(handed)
		if !reflect.DeepEqual(whole(handed), before) {
			t.Errorf("%+v: it is %+v now", before, whole(handed))
		}
		if !sameTold(answers, told(a)) {
			t.Errorf("%+v: with room behind its lists other answers are told", a)
		}
	}
	none := conf.Part{}
	told(none)
	if none.Tasks != nil || none.Servers != nil || none.Donees != nil {
		t.Errorf("no lists are %+v now", none)
	}
}

func TestP901NoListsAreAsEmptyOnes(t *testing.T) {
	empty := conf.Part{Tasks: []conf.Task{}, Servers: []conf.Server{}, Donees: []int{}}
	if !sameTold(told(conf.Part{}), told(empty)) || !sameTold(told(conf.Part{}), told(roomy(empty))) {
		t.Error("of empty lists other answers are told than of none")
	}
	for _, a := range parts() {
		left, right := conf.Part{Tasks: a.Tasks}, conf.Part{Tasks: a.Tasks, Servers: []conf.Server{}, Donees: []int{1, 2}, Acts: [3]uint8{1, 2, 3}}
		if !sameTold(told(left), told(right)) {
			t.Errorf("%+v: of empty lists other answers are told than of none", a)
		}
	}
}

func TestP901TheSameWhenAskedAgain(t *testing.T) {
	l := parts()
	var first [][][]int
	for _, a := range l {
		first = append(first, told(a))
	}
	for i := len(l) - 1; i >= 0; i-- {
		if !sameTold(told(l[i]), first[i]) || !sameTold(told(copied(l[i])), first[i]) {
			t.Errorf("%+v: other answers are told when asked again", l[i])
		}
	}
}

// reach: from where to where the memory behind a list goes.
func reach[E any](l []E) [2]uintptr {
	v := reflect.ValueOf(l)
	from := uintptr(v.UnsafePointer())
	return [2]uintptr{from, from + uintptr(v.Cap())*v.Type().Elem().Size()}
}

func TestP901StepsShareNothing(t *testing.T) {
	for _, a := range parts() {
		a = roomy(a)
		reaches := [][2]uintptr{reach(a.Tasks), reach(a.Servers), reach(a.Donees)}
		var kept [][]int
		for range 3 {
			for _, inHigh := range modes {
				l := Steps(a, 2500, inHigh)
				kept, reaches = append(kept, l), append(reaches, reach(l))
			}
		}
		for i, x := range reaches {
			for _, y := range reaches[:i] {
				if x[0] < y[1] && y[0] < x[1] {
					t.Errorf("%+v: two lists share memory", a)
				}
			}
		}
		// What is let go may rightly be a later answer's memory.
		runtime.KeepAlive(a)
		runtime.KeepAlive(kept)
		for i, l := range kept {
			clear(l[:cap(l)])
			inHigh := modes[i%2]
			if again := Steps(a, 2500, inHigh); !slices.Equal(again, oneByOne(a, 2500, inHigh)) {
				t.Errorf("%+v, high %v: the steps hang on what an answer was made into", a, inHigh)
			}
		}
	}
}

func TestP901StepsDoNotSeeWhatIsChangedLater(t *testing.T) {
	a := copied(conf.Part{Tasks: tasks(), Servers: servers()})
	l := Steps(a, 3000, false)
	before := slices.Clone(l)
	clear(a.Tasks)
	clear(a.Servers)
	Steps(conf.Part{Tasks: []conf.Task{example()}}, 3000, false)
	if !slices.Equal(l, before) {
		t.Error("the steps are others now")
	}
}

func TestP901ByManyAtOnce(t *testing.T) {
	a := roomy(conf.Part{Tasks: tasks()[:9], Servers: servers()[:5]})
	want := told(a)
	var group sync.WaitGroup
	for range 16 {
		group.Go(func() {
			for range 5 {
				if !sameTold(told(a), want) {
					t.Error("asked by many, other answers are told")
				}
			}
		})
	}
	group.Wait()
}

package bound

import (
	"math"
	"reflect"
	"slices"
	"sync"
	"testing"

	"parclose/conf"
)

// frames: those that a partition is asked with.
var frames = []int{math.MinInt, -20, 0, 1, 10, 20, 60, 100, 256, 65535, 65536, 65537, math.MaxInt}

// answer: a number, and whether there is one.
type answer struct {
	n  int
	ok bool
}

// told: all that is answered of a partition.
func told(a conf.Part) []answer {
	l := []answer{{Far(a), true}}
	for _, n := range frames {
		var x, y answer
		x.n, x.ok = Hyper(n, a)
		y.n, y.ok = Of(n, a)
		l = append(l, x, y)
	}
	return l
}

// toldAll: what is answered of a system, with each frame.
func toldAll(c conf.Config) [][2]int {
	var l [][2]int
	for _, n := range append(frames, c.Frame) {
		c.Frame = n
		p, most := All(c)
		l = append(l, [2]int{p, most})
	}
	return l
}

// withRoom: the same list with room behind it, that others fill.
func withRoom[E any](l []E, others ...E) []E {
	return append(append(make([]E, 0, len(l)+len(others)), l...), others...)[:len(l)]
}

func roomy(a conf.Part) conf.Part {
	a.Tasks = withRoom(a.Tasks, task(30, 25), task(7, 2))
	a.Servers = withRoom(a.Servers, server(9), refilled(17))
	a.Donees = withRoom(a.Donees, 4, 5, 6)
	return a
}

// whole: all of a partition, and the room behind its lists.
func whole(a conf.Part) conf.Part {
	a.Tasks, a.Servers, a.Donees = a.Tasks[:cap(a.Tasks)], a.Servers[:cap(a.Servers)], a.Donees[:cap(a.Donees)]
	return a
}

func copied(a conf.Part) conf.Part {
	a.Tasks, a.Servers, a.Donees = slices.Clone(a.Tasks), slices.Clone(a.Servers), slices.Clone(a.Donees)
	return a
}

func roomySystem(c conf.Config) conf.Config {
	c.Windows = withRoom(c.Windows, conf.Window{At: 1, Len: 2, Part: 3})
	c.Chans = withRoom(c.Chans, conf.Channel{Queue: true, From: 1, To: 0, Size: 3})
	c.Parts = withRoom(c.Parts, roomy(example()), roomy(conf.Part{}))
	for p, a := range c.Parts {
		c.Parts[p] = roomy(a)
	}
	return c
}

// wholeSystem: all of it, and the room behind its lists and behind theirs, as another list.
func wholeSystem(c conf.Config) conf.Config {
	c.Windows, c.Chans = c.Windows[:cap(c.Windows)], c.Chans[:cap(c.Chans)]
	c.Parts = slices.Clone(c.Parts[:cap(c.Parts)])
	for p, a := range c.Parts {
		c.Parts[p] = whole(a)
	}
	return c
}

func copiedSystem(c conf.Config) conf.Config {
	c.Windows, c.Chans, c.Parts = slices.Clone(c.Windows), slices.Clone(c.Chans), slices.Clone(c.Parts)
	for p, a := range c.Parts {
		c.Parts[p] = copied(a)
	}
	return c
}

// systems: of none, of one, and of many partitions.
func systems() []conf.Config {
	l := []conf.Config{{}, {Parts: []conf.Part{}}, system(20, example()), system(20, none()), system(20, example(), none(), conf.Part{})}
	all := parts()
	for i := range len(all) - 5 {
		l = append(l, conf.Config{Frame: 1 + i, Margin: i % 9, Windows: []conf.Window{{At: 0, Len: 1, Part: i}}, Parts: all[i : i+5], Chans: make([]conf.Channel, i%4)})
	}
	return append(l, system(20, all...))
}

func TestP1001WhatIsHandedInIsLeftAlone(t *testing.T) {
	for _, a := range parts() {
		handed := roomy(a)
		before := copied(whole(handed))
		answers := told(handed)
		if !reflect.DeepEqual(whole(handed), before) {
			t.Errorf("%+v: it is %+v now", before, whole(handed))
		}
		if !slices.Equal(answers, told(a)) {
			t.Errorf("%+v: with room behind its lists other answers are told", a)
		}
	}
	none := conf.Part{}
	told(none)
	if none.Tasks != nil || none.Servers != nil || none.Donees != nil {
		t.Errorf("no lists are %+v now", none)
	}
}

func TestP1001ASystemIsLeftAlone(t *testing.T) {
	for _, c := range systems() {
		handed := roomySystem(c)
		before := copiedSystem(wholeSystem(handed))
		answers := toldAll(handed)
		if !reflect.DeepEqual(wholeSystem(handed), before) {
			t.Errorf("%+v: it is %+v now", before, wholeSystem(handed))
		}
		if !slices.Equal(answers, toldAll(c)) {
			t.Errorf("%+v: with room behind its lists other answers are told", c)
		}
	}
	none := conf.Config{Frame: 20}
	All(none)
	if none.Parts != nil || none.Windows != nil || none.Chans != nil {
		t.Errorf("no lists are %+v now", none)
	}
}

func TestP1001NoListsAreAsEmptyOnes(t *testing.T) {
	empty := conf.Part{Tasks: []conf.Task{}, Servers: []conf.Server{}, Donees: []int{}}
	if !slices.Equal(told(conf.Part{}), told(empty)) || !slices.Equal(told(conf.Part{}), told(roomy(empty))) {
		t.Error("of empty lists other answers are told than of none")
	}
	for _, a := range parts() {
		left, right := conf.Part{Tasks: a.Tasks}, conf.Part{Tasks: a.Tasks, Servers: []conf.Server{}, Donees: []int{1, 2}, Acts: [3]uint8{1, 2, 3}}
		if !slices.Equal(told(left), told(right)) {
			t.Errorf("%+v: of empty lists other answers are told than of none", a)
		}
	}
	for _, c := range []conf.Config{{}, {Frame: 20, Parts: []conf.Part{{}, empty}}} {
		other := conf.Config{Frame: c.Frame, Windows: []conf.Window{}, Chans: []conf.Channel{}, Parts: make([]conf.Part, len(c.Parts))}
		if !slices.Equal(toldAll(c), toldAll(other)) {
			t.Errorf("%+v: of empty lists other answers are told than of none", c)
		}
	}
}

// Of lists far longer than there may be.
func TestP1001LongLists(t *testing.T) {
	const many = 1 << 19
	periods := []int{12, 20, 30, 60, 1}
	var a conf.Part
	for i := range many {
		a.Tasks = append(a.Tasks, task(periods[i%5], 1), task(1001+i, 997))
		a.Servers = append(a.Servers, server(periods[i%5]), conf.Server{C: i + 1, T: -i})
	}
	a.Tasks[len(a.Tasks)-1] = task(90, 70)
	checkHyper(t, 20, a, 180, true)
	checkFar(t, a, 70)
	checkOf(t, 20, a, 250, true)
	a.Servers[len(a.Servers)-1] = refilled(997)
	checkHyper(t, 20, a, 0, false)
	checkFar(t, a, 997)
	checkOf(t, 20, a, 0, false)
	checkAll(t, system(20, example(), a), 1, 0)
	checkAll(t, system(20, make([]conf.Part, many)...), -1, 21)
	// All periods that there are, again and again.
	a = conf.Part{}
	for i := range many {
		a.Tasks = append(a.Tasks, task(1+i%1000, 1))
	}
	checkHyper(t, 20, a, 0, false)
	checkFar(t, a, 1)
}

func TestP1001TheSameWhenAskedAgain(t *testing.T) {
	l := parts()
	var first [][]answer
	for _, a := range l {
		first = append(first, told(a))
	}
	for i := len(l) - 1; i >= 0; i-- {
		if !slices.Equal(told(l[i]), first[i]) || !slices.Equal(told(copied(l[i])), first[i]) {
			t.Errorf("%+v: other answers are told when asked again", l[i])
		}
	}
	for _, c := range systems() {
		if want := toldAll(c); !slices.Equal(toldAll(c), want) || !slices.Equal(toldAll(copiedSystem(c)), want) {
			t.Errorf("%+v: other answers are told when asked again", c)
		}
	}
}

func TestP1001ByManyAtOnce(t *testing.T) {
	c := roomySystem(system(20, example(), with(of(4, 6), 10), none(), conf.Part{Tasks: wrongTasks(), Servers: wrongServers()}))
	var want [][]answer
	for _, a := range c.Parts {
		want = append(want, told(a))
	}
	all := toldAll(c)
	var group sync.WaitGroup
	for range 16 {
		group.Go(func() {
			for range 20 {
				for p, a := range c.Parts {
					if !slices.Equal(told(a), want[p]) {
						t.Error("asked by many, other answers are told")
					}
				}
				if !slices.Equal(toldAll(c), all) {
					t.Error("asked by many, other answers are told of a system")
				}
			}
		})
	}
	group.Wait()
}

package admit

import (
	"math"
	"reflect"
	"slices"
	"sync"
	"testing"

	"parclose/api"
	"parclose/conf"
)

// answer: a number, and whether there is one.
type answer struct {
	n  int
	ok bool
}

// answers: all that is told of a system.
type answers struct {
	verdict Verdict
	err     api.Errno
	numbers []answer
	holds   []bool
}

func told(c conf.Config) answers {
	var all answers
	all.verdict, all.err = Judge(c)
	for _, p := range []int{math.MinInt, -1, 0, 1, 2, 3, 6, math.MaxInt} {
		for _, high := range modes {
			var x answer
			x.n, x.ok = Phase(c, p, high)
			all.numbers = append(all.numbers, x)
			for _, n := range []int{math.MinInt, 0, 7, 20, 1 << 40, math.MaxInt} {
				x.n, x.ok = Slack(c, p, n, high)
				all.numbers = append(all.numbers, x)
			}
		}
	}
	for _, v := range []Verdict{all.verdict, {}, {Kind: Reject, T: 10}, {Kind: Large, Part: 1}, {Kind: Reject, Part: 1, High: true, T: 20}} {
		all.holds = append(all.holds, Holds(c, v))
	}
	return all
}

func same(x, y answers) bool { return reflect.DeepEqual(x, y) }

// withRoom: the same list with room behind it, that others fill.
func withRoom[E any](l []E, others ...E) []E {
	return append(append(make([]E, 0, len(l)+len(others)), l...), others...)[:len(l)]
}

func roomyPart(a conf.Part) conf.Part {
	a.Tasks = withRoom(a.Tasks, low(7, 7, 7), high(3, 3, 3, 1, 3))
	a.Servers = withRoom(a.Servers, conf.Server{C: 5, T: 5}, conf.Server{Refill: true, C: 9, T: 9})
	a.Donees = withRoom(a.Donees, 4, 5, 6)
	return a
}

func roomy(c conf.Config) conf.Config {
	c.Windows = withRoom(c.Windows, win(c.Frame-1, 1, 0), win(0, 1, 0))
	c.Chans = withRoom(c.Chans, conf.Channel{Queue: true, From: 1, To: 0, Size: 3})
	c.Parts = withRoom(c.Parts, none(), lowBreaks())
	all := c.Parts[:cap(c.Parts)]
	for p, a := range all {
		all[p] = roomyPart(a)
	}
	return c
}

// whole: all of a system, and the room behind its lists and behind theirs, as another list.
func whole(c conf.Config) conf.Config {
	c.Windows, c.Chans = c.Windows[:cap(c.Windows)], c.Chans[:cap(c.Chans)]
	c.Parts = slices.Clone(c.Parts[:cap(c.Parts)])
	for p, a := range c.Parts {
		a.Tasks, a.Servers, a.Donees = a.Tasks[:cap(a.Tasks)], a.Servers[:cap(a.Servers)], a.Donees[:cap(a.Donees)]
		c.Parts[p] = a
	}
	return c
}

func copied(c conf.Config) conf.Config {
	c.Windows, c.Chans, c.Parts = slices.Clone(c.Windows), slices.Clone(c.Chans), slices.Clone(c.Parts)
	for p, a := range c.Parts {
		a.Tasks, a.Servers, a.Donees = slices.Clone(a.Tasks), slices.Clone(a.Servers), slices.Clone(a.Donees)
		c.Parts[p] = a
	}
	return c
}

// asking: systems that purity is asked of; some of them may not be.
func asking(t *testing.T) []conf.Config {
	t.Helper()
	l := systems(t, 30)
	for _, w := range wrongs() {
		l = append(l, w.c)
	}
	return l
}

func TestP1101WhatIsHandedInIsLeftAlone(t *testing.T) {
	for _, c := range asking(t) {
		want := told(c)
		handed := roomy(c)
		before := copied(whole(handed))
		all := told(handed)
		if !reflect.DeepEqual(whole(handed), before) {
			t.Errorf("%+v: it is %+v now", before, whole(handed))
		}
		if !same(all, want) {
			t.Errorf("%+v: with room behind its lists %+v is told, not %+v", c, all, want)
		}
	}
}

func TestP1101NoListsAreLeftAlone(t *testing.T) {
	c := conf.Config{Frame: 10, Parts: make([]conf.Part, 2)}
	told(c)
	if c.Windows != nil || c.Chans != nil || c.Parts[0].Tasks != nil || c.Parts[0].Servers != nil || c.Parts[0].Donees != nil {
		t.Errorf("no lists are %+v now", c)
	}
	c.Parts = nil
	told(c)
	if c.Parts != nil {
		t.Errorf("no partitions are %+v now", c.Parts)
	}
}

// emptied: each list that is none is an empty one, with room behind it.
func emptied(c conf.Config) conf.Config {
	c.Windows, c.Chans, c.Parts = append(make([]conf.Window, 0, 3), c.Windows...), append([]conf.Channel{}, c.Chans...), append(make([]conf.Part, 0, 3), c.Parts...)
	for p, a := range c.Parts {
		c.Parts[p] = conf.Part{Tasks: append([]conf.Task{}, a.Tasks...), Servers: append(make([]conf.Server, 0, 2), a.Servers...), Donees: append([]int{}, a.Donees...), Acts: a.Acts}
	}
	return c
}

func TestP1101NoListsAreAsEmptyOnes(t *testing.T) {
	for _, c := range append(asking(t), conf.Config{}, conf.Config{Frame: 10}, conf.Config{Frame: 10, Parts: make([]conf.Part, 6)}) {
		if x, y := told(c), told(emptied(c)); !same(x, y) {
			t.Errorf("%+v: of empty lists %+v is told, not %+v", c, y, x)
		}
	}
}

// repeated: a list of so many, of one thing.
func repeated[E any](n int, e E) []E {
	return slices.Repeat([]E{e}, n)
}

// Of lists far longer than there may be.
func TestP1101LongLists(t *testing.T) {
	const many = 1 << 20
	long := []struct {
		change func(c *conf.Config)
		err    api.Errno
	}{
		{func(c *conf.Config) { c.Windows = repeated(many, win(0, 1, 0)) }, api.ErrWindow},
		{func(c *conf.Config) { c.Parts = repeated(many, light()) }, api.ErrArg},
		{func(c *conf.Config) { c.Parts[1].Tasks = repeated(many, low(10, 10, 1)) }, api.ErrTask},
		{func(c *conf.Config) { c.Parts[1].Servers = repeated(many, conf.Server{C: 1, T: 10}) }, api.ErrServer},
		{func(c *conf.Config) { c.Parts[1].Donees = repeated(many, 0) }, api.ErrDonee},
		{func(c *conf.Config) { c.Chans = repeated(many, conf.Channel{From: 0, To: 1, Size: 1}) }, api.ErrChannel},
	}
	for _, l := range long {
		c := shared(20, light(), light())
		l.change(&c)
		v, err := Judge(c)
		n, ok := Phase(c, 0, false)
		slack, is := Slack(c, 0, 10, false)
		if v != (Verdict{}) || err != l.err || n != 0 || ok || slack != 0 || is || Holds(c, v) {
			t.Errorf("a long list that is to be error %d: %+v, error %d, %d, %v, %d, %v", l.err, v, err, n, ok, slack, is)
		}
	}
	// As long as they may be.
	most := conf.Part{Tasks: repeated(6, low(200, 150, 2)), Servers: repeated(3, conf.Server{Refill: true, C: 1, T: 200}), Donees: nil}
	c := conf.Config{Frame: 200, Parts: repeated(6, most)}
	for i := range 32 {
		c.Windows = append(c.Windows, win(6*i, 6, i%6))
	}
	want, _ := judgedOf(c)
	checkJudge(t, c, want, api.OK)
}

func TestP1101TheSameWhenAskedAgain(t *testing.T) {
	l := asking(t)
	var first []answers
	for _, c := range l {
		first = append(first, told(c))
	}
	for i := len(l) - 1; i >= 0; i-- {
		if x, y := told(l[i]), told(copied(l[i])); !same(x, first[i]) || !same(y, first[i]) {
			t.Errorf("%+v: asked again %+v and %+v are told, not %+v", l[i], x, y, first[i])
		}
	}
}

// What is told goes by what a system is when it is asked.
func TestP1101AfterAChange(t *testing.T) {
	c := example()
	rejected(t, c, 0, false, 10)
	c.Windows[0].Len = 4
	admitted(t, c)
	c.Parts[0].Tasks[0].Lo, c.Parts[0].Tasks[0].Top = 5, 5
	rejected(t, c, 0, false, 10)
	c.Parts[0].Tasks[0] = low(10, 3, 1)
	rejected(t, c, 0, false, 3)
	c.Frame = 0
	checkJudge(t, c, Verdict{}, api.ErrFrame)
	c.Frame = 4
	admitted(t, c)
}

func TestP1101ByManyAtOnce(t *testing.T) {
	l := []conf.Config{roomy(example()), roomy(shared(20, light(), highBreaks())), roomy(shared(20, light(), none())), roomy(behind()), {Frame: 10}}
	var want []answers
	for _, c := range l {
		want = append(want, told(c))
	}
	var group sync.WaitGroup
	for range 16 {
		group.Go(func() {
			for range 5 {
				for i, c := range l {
					if all := told(c); !same(all, want[i]) {
						t.Errorf("asked by many %+v is told, not %+v", all, want[i])
					}
				}
			}
		})
	}
	group.Wait()
}

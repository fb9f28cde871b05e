// The tests are of a package of their own, as all that they hold a Sched to is told by its calls.
package gsched_test

import (
	"math"
	"slices"
	"testing"

	"parclose/conf"
	"parclose/gsched"
)

// The kinds of ticks, by the numbers that chapter 15 gives them.
const (
	own    = 0
	given  = 1
	lost   = 2
	margin = 3
	gap    = 4
)

// mostTick: MaxTick, in the document's words.
const mostTick = 1 << 62

// ticks: some about which an answer may turn, or an int wrap round.
var ticks = []int{
	math.MinInt, math.MinInt + 1, math.MinInt + 255, -1<<62 - 1, -1 << 62, -1<<62 + 1, -1 << 32, -257, -256, -255, -21, -20, -19, -10, -2, -1,
	0, 1, 2, 9, 10, 11, 19, 20, 21, 255, 256, 257, 1000, 1 << 31, 1 << 32, 1<<32 + 1,
	mostTick - 257, mostTick - 1, mostTick, mostTick + 1, mostTick + 257, math.MaxInt - 256, math.MaxInt - 1, math.MaxInt,
}

// partitions: all there may be, and numbers that are none.
var partitions = []int{math.MinInt, math.MinInt + 1, -1 << 32, -7, -6, -2, -1, 0, 1, 2, 3, 4, 5, 6, 7, 255, 256, 1 << 32, 1<<32 + 1, 1 << 62, math.MaxInt - 1, math.MaxInt}

// nothing: what a Choice is where there is no tick of anybody's.
var nothing = gsched.Choice{Kind: gap, Owner: -1, Runner: -1}

// model: a system, and what the chapter's words say of it. It looks at the windows one by one, and asks no table.
type model struct {
	conf.Config
}

// inWindow: whose window a tick is in, and how far; -1, if it is in none.
func (m model) inWindow(tick int) (int, int) {
	place := (tick%m.Frame + m.Frame) % m.Frame
	for _, w := range m.Windows {
		if w.At <= place && place < w.At+w.Len {
			return w.Part, place - w.At
		}
	}
	return -1, 0
}

// openTo: to whom a tick is open; -1, if to nobody.
func (m model) openTo(tick int) int {
	if p, far := m.inWindow(tick); far >= m.Margin {
		return p
	}
	return -1
}

// in: is p in the row, and true there?
func in(ready []bool, p int) bool {
	for i, is := range ready {
		if i == p && is {
			return true
		}
	}
	return false
}

func (m model) at(tick int, ready []bool) gsched.Choice {
	owner, _ := m.inWindow(tick)
	if owner == -1 {
		return nothing
	}
	if m.openTo(tick) == -1 {
		return gsched.Choice{Kind: margin, Owner: owner, Runner: -1}
	}
	if in(ready, owner) {
		return gsched.Choice{Kind: own, Owner: owner, Runner: owner}
	}
	for _, donee := range m.Parts[owner].Donees {
		if in(ready, donee) {
			return gsched.Choice{Kind: given, Owner: owner, Runner: donee}
		}
	}
	return gsched.Choice{Kind: lost, Owner: owner, Runner: -1}
}

func (m model) donees(p int) []int {
	for i, a := range m.Parts {
		if i == p {
			return a.Donees
		}
	}
	return nil
}

func (m model) next(p, tick int) (int, bool) {
	if p < 0 {
		return 0, false
	}
	tick = min(tick, mostTick)
	for far := range m.Frame {
		if m.openTo(tick+far) == p {
			return tick + far, true
		}
	}
	return 0, false
}

// both: a Sched, and the model that it is held against. Each call is made of both.
type both struct {
	t *testing.T
	s *gsched.Sched
	m model
}

func newBoth(t *testing.T, c conf.Config) *both {
	t.Helper()
	s := gsched.New(c)
	if s == nil {
		t.Fatalf("New(%v): nil", c)
	}
	return &both{t, s, model{conf.Clone(c)}}
}

func (b *both) at(tick int, ready ...bool) {
	b.t.Helper()
	if got, want := b.s.At(tick, ready...), b.m.at(tick, ready); got != want {
		b.t.Errorf("At(%d, %v): %v, not %v", tick, ready, got, want)
	}
}

func (b *both) donees(p int) {
	b.t.Helper()
	if got, want := b.s.Donees(p), b.m.donees(p); !slices.Equal(got, want) {
		b.t.Errorf("Donees(%d): %v, not %v", p, got, want)
	}
}

func (b *both) next(p, tick int) {
	b.t.Helper()
	want, is := b.m.next(p, tick)
	if got, ok := b.s.Next(p, tick); got != want || ok != is {
		b.t.Errorf("Next(%d, %d): %d, %v, not %d, %v", p, tick, got, ok, want, is)
	}
}

// look: all that a Sched tells of the ticks of a frame, if none is ready, all are, or one is.
func (b *both) look() {
	b.t.Helper()
	for tick := range b.m.Frame {
		b.at(tick)
		b.at(tick, true, true, true, true, true, true)
		one := make([]bool, 6)
		one[tick%6] = true
		b.at(tick, one...)
	}
	for p := -1; p < 7; p++ {
		b.donees(p)
		for tick := range b.m.Frame {
			b.next(p, tick)
		}
	}
}

// lookFar: the same, and of all ticks and numbers about which an answer may turn.
func (b *both) lookFar() {
	b.t.Helper()
	b.look()
	for _, tick := range ticks {
		b.at(tick)
		for p := range 7 {
			one := make([]bool, p+1)
			one[p] = true
			b.at(tick, one...)
		}
		for _, p := range partitions {
			b.next(p, tick)
		}
	}
	for _, p := range partitions {
		b.donees(p)
	}
}

// stop ends a test that went wrong, so that it tells no more than what went wrong first.
func (b *both) stop(what string) {
	b.t.Helper()
	if b.t.Failed() {
		b.t.Fatalf("%s: %v", what, b.m.Config)
	}
}

// rows: all rows of who is ready of at most so many.
func rows(most int) [][]bool {
	l := [][]bool{nil}
	for from := 0; most > 0; most-- {
		end := len(l)
		for _, row := range l[from:end] {
			l = append(l, append(slices.Clone(row), false), append(slices.Clone(row), true))
		}
		from = end
	}
	return l
}

package heap

import (
	"math"
	"slices"
	"testing"

	"parclose/api"
)

// dues: when something may be due; what is between some of them is no int.
var dues = []int{
	math.MinInt, math.MinInt + 1, -1 << 62, -1<<62 + 1, -1 << 32, -257, -2, -1, 0, 1, 2, 9, 255, 256, 1 << 31, 1 << 32, 1<<32 + 1,
	1<<62 - 1, 1 << 62, 1<<62 + 1, math.MaxInt - 1, math.MaxInt,
}

// edges: numbers about which an answer may turn.
var edges = []int{
	math.MinInt, math.MinInt + 1, -1 << 62, -1 << 32, -1025, -1024, -1023, -256, -2, -1, 0, 1, 2, 3, 7, 8, 15, 16, 255, 256, 257,
	1022, 1023, 1024, 1025, 2047, 2048, 1 << 16, 1 << 31, 1 << 32, 1<<32 + 1, 1<<62 - 1, 1 << 62, math.MaxInt - 1, math.MaxInt,
}

// pair: a number, and when it is due.
type pair struct{ id, due int }

// plain: what a heap is held against: a room, and those that are in, always in order.
type plain struct {
	room int
	list []pair
}

func (p *plain) isNumber(id int) bool { return 0 <= id && id < p.room }

// at: where in the list a number is; below 0, if it is not in.
func (p *plain) at(id int) int {
	return slices.IndexFunc(p.list, func(x pair) bool { return x.id == id })
}

// insert: behind all that are due earlier, and those of the same time and lesser numbers.
func (p *plain) insert(id, due int) {
	at := 0
	for at < len(p.list) && (p.list[at].due < due || p.list[at].due == due && p.list[at].id < id) {
		at++
	}
	p.list = slices.Insert(p.list, at, pair{id, due})
}

func (p *plain) put(id, due int) api.Errno {
	switch {
	case !p.isNumber(id):
		return api.ErrArg
	case p.at(id) >= 0:
		return api.ErrThere
	}
	p.insert(id, due)
	return api.OK
}

func (p *plain) change(id, due int) api.Errno {
	switch {
	case !p.isNumber(id):
		return api.ErrArg
	case p.at(id) < 0:
		return api.ErrNone
	}
	p.remove(id)
	p.insert(id, due)
	return api.OK
}

func (p *plain) remove(id int) bool {
	at := p.at(id)
	if at < 0 {
		return false
	}
	p.list = slices.Delete(p.list, at, at+1)
	return true
}

func (p *plain) first() (int, int, bool) {
	if len(p.list) == 0 {
		return 0, 0, false
	}
	return p.list[0].id, p.list[0].due, true
}

func (p *plain) pop() (int, int, bool) {
	id, due, ok := p.first()
	if ok {
		p.list = p.list[1:]
	}
	return id, due, ok
}

func (p *plain) due(id int) (int, bool) {
	at := p.at(id)
	if at < 0 {
		return 0, false
	}
	return p.list[at].due, true
}

func (p *plain) all() []int {
	var l []int
	for _, x := range p.list {
		l = append(l, x.id)
	}
	return l
}

// both: a heap, and what it is held against. Each call is made of both.
type both struct {
	t *testing.T
	h *Heap
	p *plain
}

// newBoth: of a room that is one.
func newBoth(t *testing.T, room int) *both { return &both{t, New(room), &plain{room: room}} }

// of: the same, with these put in.
func of(t *testing.T, room int, l ...pair) *both {
	t.Helper()
	b := newBoth(t, room)
	for _, x := range l {
		b.put(x.id, x.due)
	}
	return b
}

func (b *both) put(id, due int) {
	b.t.Helper()
	if err, want := b.h.Put(id, due), b.p.put(id, due); err != want {
		b.t.Errorf("Put(%d, %d) of room %d: %d, not %d", id, due, b.p.room, err, want)
	}
}

func (b *both) change(id, due int) {
	b.t.Helper()
	if err, want := b.h.Change(id, due), b.p.change(id, due); err != want {
		b.t.Errorf("Change(%d, %d) of room %d: %d, not %d", id, due, b.p.room, err, want)
	}
}

func (b *both) remove(id int) {
	b.t.Helper()
	if in, want := b.h.Remove(id), b.p.remove(id); in != want {
		b.t.Errorf("Remove(%d) of room %d: %v, not %v", id, b.p.room, in, want)
	}
}

func (b *both) first() {
	b.t.Helper()
	id, due, ok := b.h.First()
	if wantID, wantDue, want := b.p.first(); id != wantID || due != wantDue || ok != want {
		b.t.Errorf("First: %d, %d, %v, not %d, %d, %v", id, due, ok, wantID, wantDue, want)
	}
}

func (b *both) pop() {
	b.t.Helper()
	id, due, ok := b.h.Pop()
	if wantID, wantDue, want := b.p.pop(); id != wantID || due != wantDue || ok != want {
		b.t.Errorf("Pop: %d, %d, %v, not %d, %d, %v", id, due, ok, wantID, wantDue, want)
	}
}

func (b *both) due(id int) {
	b.t.Helper()
	due, ok := b.h.Due(id)
	if wantDue, want := b.p.due(id); due != wantDue || ok != want {
		b.t.Errorf("Due(%d): %d, %v, not %d, %v", id, due, ok, wantDue, want)
	}
}

func (b *both) length() {
	b.t.Helper()
	if n := b.h.Len(); n != len(b.p.list) {
		b.t.Errorf("Len: %d, not %d", n, len(b.p.list))
	}
}

func (b *both) all() {
	b.t.Helper()
	if l, want := b.h.All(), b.p.all(); !slices.Equal(l, want) {
		b.t.Errorf("All: %v, not %v", l, want)
	}
}

// look: all that a heap tells, twice, as it changes nothing.
func (b *both) look() {
	b.t.Helper()
	for range 2 {
		b.first()
		b.length()
		b.all()
		for id := -2; id < b.p.room+2; id++ {
			b.due(id)
		}
	}
}

// popAll: one by one, and then none.
func (b *both) popAll() {
	b.t.Helper()
	for range len(b.p.list) + 2 {
		b.pop()
	}
	b.length()
	b.all()
}

// heaps: chosen ones of up to twelve numbers: none, one, many due at the same, rising, falling, and across.
func heaps() [][]pair {
	l := [][]pair{
		nil,
		{{0, 0}},
		{{11, math.MinInt}},
		{{3, 9}, {1, 4}, {2, 9}},
		{{0, math.MaxInt}, {1, math.MinInt}},
		{{0, math.MinInt}, {1, math.MaxInt}, {2, 0}, {3, -1}, {4, 1 << 62}, {5, -1 << 62}},
	}
	var same, falling, rising, across, pairs []pair
	for id := range 12 {
		same = append(same, pair{11 - id, 5})
		rising = append(rising, pair{id, 10 * id})
		falling = append(falling, pair{id, -10 * id})
		across = append(across, pair{id, id * 7 % 12})
		pairs = append(pairs, pair{id * 5 % 12, id % 3})
	}
	return append(l, same, falling, rising, across, pairs)
}

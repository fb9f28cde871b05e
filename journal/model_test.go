// The tests are of a package of their own, as all that they hold a Log to is told by its calls.
package journal_test

import (
	"math"
	"testing"

	"parclose/journal"
)

// mostStory: MaxStory, in the document's words.
const mostStory = 65536

// numbers: some about which an answer may turn.
var numbers = []int{
	math.MinInt, math.MinInt + 1, -1 << 62, -1<<32 + 14, -1 << 32, -1 << 31, -257, -256, -255, -15, -14, -2, -1, 0, 1, 2, 7, 13, 14, 15, 16,
	30, 127, 128, 255, 256, 257, 270, 1 << 16, 1<<16 + 14, 1 << 31, 1<<32 - 1, 1 << 32, 1<<32 + 1, 1<<32 + 14, 1 << 62, 1<<62 + 1, math.MaxInt - 1, math.MaxInt,
}

// words: the kinds' words, by their numbers, as the document has them.
var words = []string{
	"accept", "refuse", "ask", "ran", "ended", "over", "missed", "rose", "dropped", "fell", "served", "op", "fault", "order", "mark",
}

// entry: the n-th of a row in which each field is another one.
func entry(n int) journal.Entry {
	return journal.Entry{Tick: 10 * n, Kind: n % 15, A: 10*n + 1, B: -10*n - 2}
}

// row: so many entries, from one on.
func row(from, count int) []journal.Entry {
	l := make([]journal.Entry, count)
	for i := range l {
		l[i] = entry(from + i)
	}
	return l
}

// alike: is one list of entries as another one? It asks for each field by itself, as Same may be wrong.
func alike(a, b []journal.Entry) bool {
	if len(a) != len(b) {
		return false
	}
	for i := range a {
		x, y := a[i], b[i]
		if x.Tick != y.Tick || x.Kind != y.Kind || x.A != y.A || x.B != y.B {
			return false
		}
	}
	return true
}

// both: a Log, and what it is held against: all entries that came, those that were lost among them. Each call is made of both.
type both struct {
	t    *testing.T
	l    *journal.Log
	room int
	came []journal.Entry
}

func newBoth(t *testing.T, room int) *both {
	t.Helper()
	l := journal.New(room)
	if l == nil {
		t.Fatalf("New(%d): nil", room)
	}
	return &both{t: t, l: l, room: max(0, min(room, mostStory))}
}

// kept: those that came while there was room.
func (b *both) kept() []journal.Entry {
	if len(b.came) > b.room {
		return b.came[:b.room]
	}
	return b.came
}

func (b *both) add(e ...journal.Entry) {
	b.t.Helper()
	was := len(b.kept())
	b.came = append(b.came, e...)
	if n, want := b.l.Add(e...), len(b.kept())-was; n != want {
		b.t.Errorf("Add of %d to %d of %d: %d, not %d", len(e), was, b.room, n, want)
	}
}

func (b *both) all() {
	b.t.Helper()
	if l := b.l.All(); !alike(l, b.kept()) {
		b.t.Errorf("All behind %d: %d entries, or others", len(b.came), len(l))
	}
}

func (b *both) of(kinds ...int) {
	b.t.Helper()
	var want []journal.Entry
	for _, e := range b.kept() {
		for _, kind := range kinds {
			if e.Kind == kind {
				want = append(want, e)
				break
			}
		}
	}
	if l := b.l.Of(kinds...); !alike(l, want) {
		b.t.Errorf("Of(%v) behind %d: %d entries, or others, not %d", kinds, len(b.came), len(l), len(want))
	}
}

func (b *both) counts() {
	b.t.Helper()
	if n := b.l.Len(); n != len(b.kept()) {
		b.t.Errorf("Len behind %d in a room of %d: %d", len(b.came), b.room, n)
	}
	if n := b.l.Lost(); n != len(b.came)-len(b.kept()) {
		b.t.Errorf("Lost behind %d in a room of %d: %d", len(b.came), b.room, n)
	}
}

// look: all that a Log tells, but of few kinds; twice, as that changes nothing.
func (b *both) look() {
	b.t.Helper()
	for range 2 {
		b.counts()
		b.all()
		b.of()
		b.of(journal.Ran, journal.Mark)
	}
}

// lookFar: the same, and of each kind, those next to them, and all the numbers about which an answer may turn.
func (b *both) lookFar() {
	b.t.Helper()
	b.look()
	for kind := -1; kind <= 15; kind++ {
		b.of(kind)
	}
	for _, kind := range numbers {
		b.of(kind)
	}
	b.of(numbers...)
	b.counts()
}

// stop ends a test that went wrong, so that it tells no more than what went wrong first.
func (b *both) stop(what string) {
	b.t.Helper()
	if b.t.Failed() {
		b.t.Fatalf("%s: a room of %d, %d entries", what, b.room, len(b.came))
	}
}

// The tests are of a package of their own, as all that they hold a Monitor to is told by its calls.
package health_test

import (
	"math"
	"testing"

	"parclose/api"
	"parclose/health"
)

// The kinds of faults, and the acts, of the document's words.
const (
	missed, overrun, odd = 0, 1, 2
	note, stop, again    = 0, 1, 2
)

// numbers: some about which an answer may turn.
var numbers = []int{
	math.MinInt, math.MinInt + 1, -1 << 62, -1<<32 + 1, -1 << 32, -1 << 31, -257, -256, -255, -254, -4, -3, -2, -1, 0, 1, 2, 3, 4, 5,
	127, 128, 254, 255, 256, 257, 258, 259, 1 << 16, 1<<16 + 1, 1 << 31, 1<<32 - 1, 1 << 32, 1<<32 + 1, 1<<32 + 2, 1 << 62, 1<<62 + 1, math.MaxInt - 1, math.MaxInt,
}

// isKind: in the document's words.
func isKind(kind int) bool { return kind == missed || kind == overrun || kind == odd }

// rows: all rows of acts that may be.
func rows() [][3]uint8 {
	var l [][3]uint8
	for _, a := range []uint8{note, stop, again} {
		for _, b := range []uint8{note, stop, again} {
			for _, c := range []uint8{note, stop, again} {
				l = append(l, [3]uint8{a, b, c})
			}
		}
	}
	return l
}

// both: a Monitor, and what it is held against: its acts, and all faults that it saw, one by one. Each call is made of both.
type both struct {
	t    *testing.T
	m    *health.Monitor
	acts [3]uint8
	seen []int
}

func newBoth(t *testing.T, acts [3]uint8) *both {
	t.Helper()
	m := health.New(acts)
	if m == nil {
		t.Fatalf("New(%v): nil", acts)
	}
	return &both{t: t, m: m, acts: acts}
}

func (b *both) fault(kind int) {
	b.t.Helper()
	act, want := uint8(0), api.ErrArg
	if isKind(kind) {
		b.seen = append(b.seen, kind)
		act, want = b.acts[kind], api.OK
	}
	if got, err := b.m.Fault(kind); got != act || err != want {
		b.t.Errorf("Fault(%d) under %v: %d, %d, not %d, %d", kind, b.acts, got, err, act, want)
	}
}

func (b *both) count(kind int) {
	b.t.Helper()
	want := 0
	for _, x := range b.seen {
		if x == kind {
			want++
		}
	}
	if n := b.m.Count(kind); n != want {
		b.t.Errorf("Count(%d) behind %d faults: %d, not %d", kind, len(b.seen), n, want)
	}
}

func (b *both) told() {
	b.t.Helper()
	if acts := b.m.Acts(); acts != b.acts {
		b.t.Errorf("Acts behind %d faults: %v, not %v", len(b.seen), acts, b.acts)
	}
}

// look: all that a Monitor tells, of each kind and those next to them, twice, as that changes nothing.
func (b *both) look() {
	b.t.Helper()
	for range 2 {
		b.told()
		for kind := -1; kind <= 3; kind++ {
			b.count(kind)
		}
	}
}

// lookFar: the same, and of all the numbers about which an answer may turn.
func (b *both) lookFar() {
	b.t.Helper()
	b.look()
	for _, kind := range numbers {
		b.count(kind)
	}
	b.told()
}

// stop ends a test that went wrong, so that it tells no more than what went wrong first.
func (b *both) stop(what string) {
	b.t.Helper()
	if b.t.Failed() {
		b.t.Fatalf("%s: acts %v, %d faults", what, b.acts, len(b.seen))
	}
}

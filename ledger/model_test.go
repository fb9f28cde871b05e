// The tests are of a package of their own, as all that they hold a ledger to is told by its calls; but those of a full one.
package ledger_test

import (
	"math"
	"testing"

	"parclose/api"
	"parclose/ledger"
)

// maxParts, of the document's words.
const maxParts = 6

// numbers: some about which an answer may turn.
var numbers = []int{
	math.MinInt, math.MinInt + 1, -1 << 62, -1 << 32, -256, -8, -7, -6, -5, -4, -3, -2, -1, 0, 1, 2, 3, 4, 5, 6, 7, 8,
	255, 256, 1 << 16, 1 << 31, 1 << 32, 1<<32 + 1, 1 << 62, 1<<62 + 1, math.MaxInt - 1, math.MaxInt,
}

// own to gap: the kinds, of the document's words.
const (
	own = iota
	given
	lost
	margin
	gap
)

// tick: one that was charged.
type tick struct{ kind, p, q int }

// plain: what a ledger is held against: of how many partitions it is, and all ticks that were charged, one by one.
type plain struct {
	parts int
	list  []tick
}

func (b *plain) has(p int) bool { return 0 <= p && p < b.parts }

func (b *plain) charge(x tick) api.Errno {
	switch {
	case x.kind < own || x.kind > gap,
		x.kind != gap && !b.has(x.p),
		x.kind == given && (!b.has(x.q) || x.q == x.p):
		return api.ErrArg
	}
	b.list = append(b.list, x)
	return api.OK
}

// count: how many ticks are so.
func (b *plain) count(so func(x tick) bool) int {
	n := 0
	for _, x := range b.list {
		if so(x) {
			n++
		}
	}
	return n
}

func (b *plain) of(kind, p int) int {
	return b.count(func(x tick) bool { return kind != gap && x.kind == kind && x.p == p })
}

func (b *plain) got(q int) int {
	return b.count(func(x tick) bool { return x.kind == given && x.q == q })
}

func (b *plain) gave(p, q int) int {
	return b.count(func(x tick) bool { return x.kind == given && x.p == p && x.q == q })
}

// both: a ledger, and what it is held against. Each call is made of both.
type both struct {
	t *testing.T
	l *ledger.Ledger
	b *plain
}

// newBoth: of a number of partitions that a ledger may have.
func newBoth(t *testing.T, parts int) *both { return &both{t, ledger.New(parts), &plain{parts: parts}} }

// of: the same, with these ticks.
func of(t *testing.T, parts int, l ...tick) *both {
	b := newBoth(t, parts)
	for _, x := range l {
		b.charge(x)
	}
	return b
}

func (b *both) charge(x tick) {
	b.t.Helper()
	if err, want := b.l.Charge(x.kind, x.p, x.q), b.b.charge(x); err != want {
		b.t.Errorf("Charge(%d, %d, %d) of %d: %d, not %d", x.kind, x.p, x.q, b.b.parts, err, want)
	}
}

func (b *both) of(kind, p int) {
	b.t.Helper()
	if n, want := b.l.Of(kind, p), b.b.of(kind, p); n != want {
		b.t.Errorf("Of(%d, %d) of %d: %d, not %d", kind, p, b.b.parts, n, want)
	}
}

func (b *both) got(q int) {
	b.t.Helper()
	if n, want := b.l.Got(q), b.b.got(q); n != want {
		b.t.Errorf("Got(%d) of %d: %d, not %d", q, b.b.parts, n, want)
	}
}

func (b *both) gave(p, q int) {
	b.t.Helper()
	if n, want := b.l.Gave(p, q), b.b.gave(p, q); n != want {
		b.t.Errorf("Gave(%d, %d) of %d: %d, not %d", p, q, b.b.parts, n, want)
	}
}

func (b *both) total() {
	b.t.Helper()
	if n := b.l.Total(); n != len(b.b.list) {
		b.t.Errorf("Total of %d: %d, not %d", b.b.parts, n, len(b.b.list))
	}
}

// look: all that a ledger tells, of each partition and those next to them, twice, as that changes nothing.
func (b *both) look() {
	b.t.Helper()
	for range 2 {
		b.total()
		for p := -1; p <= maxParts; p++ {
			for kind := own - 1; kind <= gap+1; kind++ {
				b.of(kind, p)
			}
			b.got(p)
			for q := -1; q <= maxParts; q++ {
				b.gave(p, q)
			}
		}
	}
}

// lookFar: the same, and of all the numbers about which an answer may turn.
func (b *both) lookFar() {
	b.t.Helper()
	b.look()
	for _, p := range numbers {
		b.got(p)
		for _, other := range numbers {
			b.of(other, p)
			b.gave(p, other)
		}
	}
}

// stop ends a test that went wrong, so that it tells no more than what went wrong first.
func (b *both) stop(what string) {
	b.t.Helper()
	if b.t.Failed() {
		b.t.Fatalf("%s: %d partitions, %d ticks", what, b.b.parts, len(b.b.list))
	}
}

// every: one tick of each kind of each partition there is, and of those given one to each other one.
func every(parts int) []tick {
	l := []tick{{gap, 0, 0}}
	for p := range parts {
		for _, kind := range []int{own, lost, margin} {
			l = append(l, tick{kind, p, 0})
		}
		for q := range parts {
			if q != p {
				l = append(l, tick{given, p, q})
			}
		}
	}
	return l
}

// The tests are of a package of their own, as all that they hold a Budget to is told by its calls.
package refill_test

import (
	"math"
	"slices"
	"testing"

	"parclose/api"
	"parclose/conf"
	"parclose/refill"
)

// Of the document's words.
const (
	maxPeriod = 1000
	maxTick   = 1 << 62
)

// numbers: some about which an answer may turn.
var numbers = []int{
	math.MinInt, math.MinInt + 1, -maxTick - 1, -maxTick, -1 << 32, -1000, -11, -10, -9, -2, -1, 0, 1, 2, 3, 9, 10, 11, 12,
	255, 256, 999, 1000, 1001, 1 << 16, 1 << 31, 1 << 32, 1<<32 + 1, maxTick - 1000, maxTick - 1, maxTick, maxTick + 1, maxTick + 1000, math.MaxInt - 1001, math.MaxInt - 1000, math.MaxInt - 1, math.MaxInt,
}

// Short names for what is live.
type lives = []refill.Chunk

// server: C ticks in T, filled again.
func server(c, t int) conf.Server { return conf.Server{Refill: true, C: c, T: t} }

// Where a tick of a budget may be.
const (
	isFree = iota
	isLive
	isGone
)

// tick: one of a budget's ticks, and which chunk of all that were ever laid it is in, and when that was.
type tick struct{ where, of, at int }

// plain: what a Budget is held against: each of its ticks, one by one.
type plain struct {
	server conf.Server
	start  int
	ticks  []tick
	// went: was there a Go? last: the tick of the last one.
	went    bool
	last    int
	stopped bool
	// laid: how many chunks ever were.
	laid int
}

func newPlain(s conf.Server, start int) *plain {
	return &plain{server: s, start: start, ticks: make([]tick, s.C)}
}

// begins: does a period begin at this very tick?
func (b *plain) begins(now int) bool {
	return now >= b.start && (now-b.start)%b.server.T == 0
}

// began: the ticks from now on down are looked at one by one, to that of the last Go; or as many as a period has, as the last beginning is one of these.
func (b *plain) began(now int) bool {
	last := b.start
	if b.went {
		last = b.last
	}
	// None of those ahead of start is looked at, so none is too low to be told.
	for at := now; at >= b.start && at > last && at > now-b.server.T; at-- {
		if b.begins(at) {
			return true
		}
	}
	return false
}

func (b *plain) goTo(now int, busy bool) {
	if b.began(now) {
		for i, x := range b.ticks {
			if x.where == isGone {
				b.ticks[i] = tick{}
			}
		}
	}
	b.went, b.last = true, now
	if !busy || b.stopped {
		return
	}
	for i, x := range b.ticks {
		if x.where == isFree {
			b.ticks[i] = tick{isLive, b.laid, now}
		}
	}
	b.laid++
}

// first: where a tick of the chunk is that was laid first, of those that are live; -1, if there is none.
func (b *plain) first() int {
	first := -1
	for i, x := range b.ticks {
		if x.where == isLive && (first < 0 || x.of < b.ticks[first].of) {
			first = i
		}
	}
	return first
}

func (b *plain) due() (int, bool) {
	first := b.first()
	if first < 0 {
		return 0, false
	}
	return b.ticks[first].at + b.server.T, true
}

func (b *plain) use() bool {
	first := b.first()
	if first < 0 {
		return false
	}
	b.ticks[first] = tick{where: isGone}
	return true
}

func (b *plain) done() {
	for i, x := range b.ticks {
		if x.where == isLive {
			b.ticks[i] = tick{}
		}
	}
}

func (b *plain) reset() {
	clear(b.ticks)
	b.stopped = false
}

// count: how many ticks are there.
func (b *plain) count(where int) int {
	n := 0
	for _, x := range b.ticks {
		if x.where == where {
			n++
		}
	}
	return n
}

func (b *plain) live() lives {
	var of []int
	for _, x := range b.ticks {
		if x.where == isLive && !slices.Contains(of, x.of) {
			of = append(of, x.of)
		}
	}
	slices.Sort(of)
	l := make(lives, len(of))
	for _, x := range b.ticks {
		if x.where == isLive {
			at := slices.Index(of, x.of)
			l[at] = refill.Chunk{At: x.at, Left: l[at].Left + 1}
		}
	}
	return l
}

// both: a Budget, and what it is held against. Each call is made of both.
type both struct {
	t *testing.T
	c *refill.Budget
	b *plain
}

// newBoth: of a server and a start that there may be.
func newBoth(t *testing.T, s conf.Server, start int) *both {
	t.Helper()
	b := &both{t, refill.New(s, start), newPlain(s, start)}
	if b.c == nil {
		t.Fatalf("New of %v, %d: nil", s, start)
	}
	return b
}

func (b *both) goTo(now int, busy bool) {
	b.c.Go(now, busy)
	b.b.goTo(now, busy)
}

// use: as many as are asked for.
func (b *both) use(times int) {
	b.t.Helper()
	for range times {
		if is, want := b.c.Use(), b.b.use(); is != want {
			b.t.Errorf("Use: %v, not %v", is, want)
		}
	}
}

func (b *both) done() {
	b.c.Done()
	b.b.done()
}

func (b *both) halt() {
	b.c.Stop()
	b.b.done()
	b.b.stopped = true
}

func (b *both) resume() {
	b.c.Resume()
	b.b.stopped = false
}

func (b *both) reset() {
	b.c.Reset()
	b.b.reset()
}

// look: all that a Budget tells; twice, as that changes nothing.
func (b *both) look() {
	b.t.Helper()
	live := b.b.live()
	for range 2 {
		n, ok := b.c.Due()
		if want, is := b.b.due(); n != want || ok != is {
			b.t.Errorf("Due: %d, %v, not %d, %v", n, ok, want, is)
		}
		if n, want := b.c.Free(), b.b.count(isFree); n != want {
			b.t.Errorf("Free: %d, not %d", n, want)
		}
		if l := b.c.Live(); !slices.Equal(l, live) {
			b.t.Errorf("Live: %v, not %v", l, live)
		}
	}
}

// stop ends a test that went wrong, so that it tells no more than what went wrong first.
func (b *both) stop(what string) {
	b.t.Helper()
	if b.t.Failed() {
		b.t.Fatalf("%s: of %v, from %d on, live %v, %d gone, last Go at %d (%v), stopped %v", what, b.b.server, b.b.start, b.b.live(), b.b.count(isGone), b.b.last, b.b.went, b.b.stopped)
	}
}

// tells holds a Budget to what is free and live, as it stands.
func tells(t *testing.T, what string, c *refill.Budget, free int, live ...refill.Chunk) {
	t.Helper()
	if n := c.Free(); n != free {
		t.Errorf("%s: Free: %d, not %d", what, n, free)
	}
	if l := c.Live(); !slices.Equal(l, live) {
		t.Errorf("%s: Live: %v, not %v", what, l, live)
	}
}

// dueAt holds a Budget to when its first live chunk is due.
func dueAt(t *testing.T, what string, c *refill.Budget, want int) {
	t.Helper()
	if n, ok := c.Due(); n != want || !ok {
		t.Errorf("%s: Due: %d, %v, not %d", what, n, ok, want)
	}
}

// dueNever: to that there is none.
func dueNever(t *testing.T, what string, c *refill.Budget) {
	t.Helper()
	if n, ok := c.Due(); n != 0 || ok {
		t.Errorf("%s: Due: %d, %v", what, n, ok)
	}
}

func TestP1802TheLimits(t *testing.T) {
	if api.MaxPeriod != maxPeriod || api.MaxTick != maxTick {
		t.Error("limits are other ones than the document says")
	}
}

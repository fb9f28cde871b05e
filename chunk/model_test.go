// The tests are of a package of their own, as all that they hold a Budget to is told by its calls.
package chunk_test

import (
	"math"
	"slices"
	"testing"

	"parclose/api"
	"parclose/chunk"
	"parclose/conf"
)

// Of the document's words.
const (
	maxPeriod = 1000
	maxTick   = 1 << 62
)

// numbers: some about which an answer may turn.
var numbers = []int{
	math.MinInt, math.MinInt + 1, -maxTick - 1, -maxTick, -1 << 32, -1000, -11, -10, -9, -2, -1, 0, 1, 2, 3, 9, 10, 11, 12,
	255, 256, 999, 1000, 1001, 1 << 16, 1 << 31, 1 << 32, 1<<32 + 1, maxTick - 1000, maxTick - 1, maxTick, maxTick + 1, maxTick + 1000, math.MaxInt - 1001, math.MaxInt - 1000, math.MaxInt - 1, math.MaxInt,
}

// server: C ticks in T.
func server(c, t int) conf.Server { return conf.Server{C: c, T: t} }

// Where a tick of a budget may be.
const (
	isFree = iota
	isLeft
	isUsed
	isBack
)

// tick: one of a budget's ticks. at: when its chunk was laid, if it is in one, or when it is back.
type tick struct {
	where int
	// of: which chunk of all that were ever laid, or which one of all that were ever to be back.
	of, at int
}

// plain: what a Budget is held against: each of its ticks, one by one.
type plain struct {
	server  conf.Server
	ticks   []tick
	stopped bool
	// laid, backs: how many chunks were ever laid, and were ever to be back.
	laid, backs int
}

func newPlain(s conf.Server) *plain { return &plain{server: s, ticks: make([]tick, s.C)} }

func (b *plain) goTo(now int, busy bool) {
	for i, x := range b.ticks {
		if x.where == isBack && x.at <= now {
			b.ticks[i] = tick{}
		}
	}
	if !busy || b.stopped {
		return
	}
	for i, x := range b.ticks {
		if x.where == isFree {
			b.ticks[i] = tick{isLeft, b.laid, now}
		}
	}
	b.laid++
}

// first: the chunk that was laid first, of those of which ticks are left; -1, if there is none.
func (b *plain) first() int {
	first := -1
	for _, x := range b.ticks {
		if x.where == isLeft && (first < 0 || x.of < first) {
			first = x.of
		}
	}
	return first
}

func (b *plain) due() (int, bool) {
	first := b.first()
	for _, x := range b.ticks {
		if x.where == isLeft && x.of == first {
			return x.at + b.server.T, true
		}
	}
	return 0, false
}

func (b *plain) use() bool {
	first := b.first()
	is := func(x tick) bool { return x.where == isLeft && x.of == first }
	at := slices.IndexFunc(b.ticks, is)
	if at < 0 {
		return false
	}
	b.ticks[at].where = isUsed
	if !slices.ContainsFunc(b.ticks, is) {
		b.end(first)
	}
	return true
}

// end: a chunk is live no more.
func (b *plain) end(of int) {
	for i, x := range b.ticks {
		switch {
		case x.where == isLeft && x.of == of:
			b.ticks[i] = tick{}
		case x.where == isUsed && x.of == of:
			b.ticks[i] = tick{isBack, b.backs, x.at + b.server.T}
		}
	}
	b.backs++
}

func (b *plain) done() {
	for b.first() >= 0 {
		b.end(b.first())
	}
}

func (b *plain) reset() { *b = *newPlain(b.server) }

func (b *plain) free() int {
	n := 0
	for _, x := range b.ticks {
		if x.where == isFree {
			n++
		}
	}
	return n
}

func (b *plain) live() []chunk.Chunk {
	var l []chunk.Chunk
	for of := range b.laid {
		var c chunk.Chunk
		for _, x := range b.ticks {
			switch {
			case x.where == isLeft && x.of == of:
				c = chunk.Chunk{At: x.at, Left: c.Left + 1, Used: c.Used}
			case x.where == isUsed && x.of == of:
				c = chunk.Chunk{At: x.at, Left: c.Left, Used: c.Used + 1}
			}
		}
		if c.Left > 0 {
			l = append(l, c)
		}
	}
	return l
}

func (b *plain) toBeBack() []chunk.Back {
	var l []chunk.Back
	for of := range b.backs {
		var c chunk.Back
		for _, x := range b.ticks {
			if x.where == isBack && x.of == of {
				c = chunk.Back{At: x.at, N: c.N + 1}
			}
		}
		if c.N > 0 {
			l = append(l, c)
		}
	}
	return l
}

// both: a Budget, and what it is held against. Each call is made of both.
type both struct {
	t *testing.T
	c *chunk.Budget
	b *plain
}

// newBoth: of a server that there may be.
func newBoth(t *testing.T, s conf.Server) *both {
	t.Helper()
	b := &both{t, chunk.New(s), newPlain(s)}
	if b.c == nil {
		t.Fatalf("New of %v: nil", s)
	}
	return b
}

func (b *both) goTo(now int, busy bool) {
	b.c.Go(now, busy)
	b.b.goTo(now, busy)
}

// use: as many as are asked for.
func (b *both) use(times int) {
	b.t.Helper()
	for range times {
		if is, want := b.c.Use(), b.b.use(); is != want {
			b.t.Errorf("Use: %v, not %v", is, want)
		}
	}
}

func (b *both) done() {
	b.c.Done()
	b.b.done()
}

func (b *both) halt() {
	b.c.Stop()
	b.b.done()
	b.b.stopped = true
}

func (b *both) resume() {
	b.c.Resume()
	b.b.stopped = false
}

func (b *both) reset() {
	b.c.Reset()
	b.b.reset()
}

// look: all that a Budget tells; twice, as that changes nothing.
func (b *both) look() {
	b.t.Helper()
	live, backs := b.b.live(), b.b.toBeBack()
	for range 2 {
		n, ok := b.c.Due()
		if want, is := b.b.due(); n != want || ok != is {
			b.t.Errorf("Due: %d, %v, not %d, %v", n, ok, want, is)
		}
		if n, want := b.c.Free(), b.b.free(); n != want {
			b.t.Errorf("Free: %d, not %d", n, want)
		}
		if l := b.c.Live(); !slices.Equal(l, live) {
			b.t.Errorf("Live: %v, not %v", l, live)
		}
		if l := b.c.Backs(); !slices.Equal(l, backs) {
			b.t.Errorf("Backs: %v, not %v", l, backs)
		}
	}
	inAll(b.t, b.c, b.b.server.C)
}

// inAll holds a Budget to P1704, by its answers alone.
func inAll(t *testing.T, c *chunk.Budget, all int) {
	t.Helper()
	n := c.Free()
	for _, x := range c.Live() {
		n += x.Left + x.Used
		if x.Left < 1 || x.Used < 0 {
			t.Errorf("live: %v", x)
		}
	}
	for _, x := range c.Backs() {
		n += x.N
		if x.N < 1 {
			t.Errorf("to be back: %v", x)
		}
	}
	if n != all || c.Free() < 0 {
		t.Errorf("%d in all, %d free, not %d", n, c.Free(), all)
	}
}

// stop ends a test that went wrong, so that it tells no more than what went wrong first.
func (b *both) stop(what string) {
	b.t.Helper()
	if b.t.Failed() {
		b.t.Fatalf("%s: of %v, live %v, to be back %v, stopped %v", what, b.b.server, b.b.live(), b.b.toBeBack(), b.b.stopped)
	}
}

// tells holds a Budget to what is live and to be back, as it stands.
func tells(t *testing.T, what string, c *chunk.Budget, free int, live []chunk.Chunk, backs []chunk.Back) {
	t.Helper()
	if n := c.Free(); n != free {
		t.Errorf("%s: Free: %d, not %d", what, n, free)
	}
	if l := c.Live(); !slices.Equal(l, live) {
		t.Errorf("%s: Live: %v, not %v", what, l, live)
	}
	if l := c.Backs(); !slices.Equal(l, backs) {
		t.Errorf("%s: Backs: %v, not %v", what, l, backs)
	}
}

func TestP1702TheLimits(t *testing.T) {
	if api.MaxPeriod != maxPeriod || api.MaxTick != maxTick {
		t.Error("limits are other ones than the document says")
	}
}

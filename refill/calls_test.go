package refill_test

import (
	"math"
	"testing"

	"parclose/refill"
)

func TestP1802TheChaptersExample(t *testing.T) {
	c := refill.New(server(3, 10), 0)
	c.Go(8, true)
	for range 3 {
		if !c.Use() {
			t.Error("Use: false")
		}
	}
	if c.Use() {
		t.Error("Use of a fourth one: true")
	}
	c.Go(10, true)
	tells(t, "at 10", c, 0, refill.Chunk{At: 10, Left: 3})
	dueAt(t, "at 10", c, 20)
}

// usedAt: of 3 ticks in 10, whose periods begin at start, and of which two were used at a tick; the last one is free.
func usedAt(start, at int) *refill.Budget {
	c := refill.New(server(3, 10), start)
	c.Go(at, true)
	c.Use()
	c.Use()
	c.Done()
	return c
}

// goes holds a Budget of which one tick is free to what it has behind a Go, busy or not.
func goes(t *testing.T, made func() *refill.Budget, now int, filled bool) {
	t.Helper()
	all := 1
	if filled {
		all = 3
	}
	c := made()
	tells(t, "ahead of Go", c, 1)
	c.Go(now, false)
	tells(t, "not busy", c, all)
	dueNever(t, "not busy", c)
	// A second one at that tick fills nothing, and lays what is free.
	c.Go(now, true)
	tells(t, "not busy, then busy", c, 0, refill.Chunk{At: now, Left: all})
	c = made()
	c.Go(now, true)
	tells(t, "busy", c, 0, refill.Chunk{At: now, Left: all})
	dueAt(t, "busy", c, now+10)
	c = made()
	c.Stop()
	c.Go(now, true)
	tells(t, "stopped", c, all)
	dueNever(t, "stopped", c)
}

func TestP1802GoAboutEachBeginning(t *testing.T) {
	for _, start := range starts() {
		// Used at each place of the first periods; then a Go at each place of these, and far behind them.
		for at := start; at < start+21; at++ {
			for step := 1; step <= 45; step++ {
				now := at + step
				begins := false
				for k := at + 1; k <= now; k++ {
					begins = begins || (k-start)%10 == 0
				}
				goes(t, func() *refill.Budget { return usedAt(start, at) }, now, begins)
				if t.Failed() {
					t.Fatalf("from %d on, used at %d, Go(%d)", start, at, now)
				}
			}
		}
	}
}

func TestP1802GoBehindManyBeginnings(t *testing.T) {
	for _, start := range []int{0, 7, 1 << 40} {
		for _, now := range []int{start + 20, start + 1000, start + 12345, 1<<50 + 3, maxTick, maxTick + 9} {
			goes(t, func() *refill.Budget { return usedAt(start, start+3) }, now, true)
			// As often as one period began, and no more.
			c := usedAt(start, start+3)
			c.Go(now, true)
			tells(t, "filled once", c, 0, refill.Chunk{At: now, Left: 3})
		}
	}
}

func TestP1802GoAtTheFirstBeginning(t *testing.T) {
	// What was used at start, or behind it, is not filled by the period that began at start.
	for _, start := range starts() {
		for at := start; at < start+10; at++ {
			for now := at; now < start+10; now++ {
				goes(t, func() *refill.Budget { return usedAt(start, at) }, now, false)
			}
			goes(t, func() *refill.Budget { return usedAt(start, at) }, start+10, true)
		}
		if t.Failed() {
			t.Fatalf("from %d on", start)
		}
	}
}

func TestP1802GoAheadOfStart(t *testing.T) {
	// No period begins there, be it a whole number of them ahead of start; at start the first one does.
	for _, start := range []int{0, 5, 30, 31, 1 << 40, maxTick} {
		for _, at := range []int{start - 1, start - 9, start - 10, start - 11, start - 20, start - 25, start - 1000, -1, -10, -1 << 40, -maxTick, math.MinInt} {
			if at >= start {
				continue
			}
			for now := start - 32; now < start; now++ {
				if now < at {
					continue
				}
				goes(t, func() *refill.Budget { return usedAt(start, at) }, now, false)
			}
			for _, now := range []int{start, start + 1, start + 9, start + 10, start + 25} {
				goes(t, func() *refill.Budget { return usedAt(start, at) }, now, true)
			}
			if t.Failed() {
				t.Fatalf("from %d on, used at %d", start, at)
			}
		}
	}
}

func TestP1802GoTwiceAtOneTick(t *testing.T) {
	for _, now := range []int{0, 9, 10, 11, 20, 25, maxTick} {
		b := newBoth(t, server(3, 10), 0)
		b.goTo(now, true)
		b.use(1)
		b.look()
		for range 3 {
			b.goTo(now, true)
			b.look()
			tells(t, "a second Go", b.c, 0, refill.Chunk{At: now, Left: 2})
		}
		b.done()
		b.goTo(now, false)
		tells(t, "Done, and Go", b.c, 2)
		// What Done makes free at a tick is a chunk again at that tick.
		b.goTo(now, true)
		tells(t, "Done, and Go again", b.c, 0, refill.Chunk{At: now, Left: 2})
		b.use(2)
		b.goTo(now, true)
		tells(t, "all are gone", b.c, 0)
		b.stop("twice at one tick")
	}
}

func TestP1802GoThatIsNotBehindTheLastOne(t *testing.T) {
	for _, last := range []int{10, 20, 25, 40} {
		for now := -15; now <= last; now++ {
			goes(t, func() *refill.Budget { return usedAt(0, last) }, now, false)
			// From then on that one is the last Go: what began behind it counts.
			for next := now + 1; next <= last+10; next++ {
				begins := false
				for k := max(now+1, 0); k <= next; k++ {
					begins = begins || k%10 == 0
				}
				goes(t, func() *refill.Budget {
					c := usedAt(0, last)
					c.Go(now, false)
					return c
				}, next, begins)
			}
			if t.Failed() {
				t.Fatalf("Go(%d) behind Go(%d)", now, last)
			}
		}
	}
}

// Each Go counts as the last one: busy or not, stopped or not.
func TestP1802EachGoIsTheLastOne(t *testing.T) {
	for _, busy := range []bool{false, true} {
		for _, stopped := range []bool{false, true} {
			b := newBoth(t, server(3, 10), 0)
			b.goTo(3, true)
			b.use(3)
			if stopped {
				b.halt()
			}
			b.goTo(10, busy)
			b.look()
			b.resume()
			b.goTo(10, true)
			b.use(2)
			b.look()
			b.goTo(19, true)
			b.look()
			tells(t, "filled at 10 alone", b.c, 0, refill.Chunk{At: 10, Left: 1})
			b.stop("the last Go")
			// One that goes back does so too: what begins behind it counts again.
			b.goTo(25, true)
			b.use(4)
			if stopped {
				b.halt()
			}
			b.goTo(5, busy)
			b.resume()
			tells(t, "gone", b.c, 0)
			b.goTo(10, true)
			b.look()
			tells(t, "filled at 10 again", b.c, 0, refill.Chunk{At: 10, Left: 3})
			b.stop("a last Go that goes back")
		}
	}
}

// partly: of 5 ticks in 10, at 10: so many were used, so many are in a live chunk from 0 on, and the others are free.
func partly(t *testing.T, used, live int) *both {
	t.Helper()
	b := newBoth(t, server(5, 10), 0)
	b.goTo(0, true)
	// What is used ahead of 10 is free from there on, what is used later is gone.
	b.use(5 - used - live)
	b.goTo(10, false)
	b.use(used)
	return b
}

// laid: a chunk of so many, or none.
func laid(at, left int) lives {
	if left == 0 {
		return nil
	}
	return lives{{At: at, Left: left}}
}

func TestP1802WhatIsMissingIsToldByFreeAndLive(t *testing.T) {
	for used := range 6 {
		for live := range 6 - used {
			free := 5 - used - live
			for _, busy := range []bool{false, true} {
				b := partly(t, used, live)
				b.goTo(19, false)
				tells(t, "ahead of a period", b.c, free, laid(0, live)...)
				b.goTo(20, busy)
				b.look()
				if busy {
					tells(t, "busy", b.c, 0, append(laid(0, live), laid(20, 5-live)...)...)
				} else {
					tells(t, "not busy", b.c, 5-live, laid(0, live)...)
				}
				b.done()
				b.look()
				tells(t, "all are there again", b.c, 5)
				b.stop("what is missing")
			}
			// Done fills nothing.
			b := partly(t, used, live)
			b.done()
			b.goTo(19, true)
			tells(t, "Done, ahead of a period", b.c, 0, laid(19, 5-used)...)
			b.stop("what is missing")
		}
	}
}

func TestP1802WhatWasUsedIsGoneUntilAPeriodBegins(t *testing.T) {
	b := newBoth(t, server(3, 10), 0)
	b.goTo(9, true)
	b.use(1)
	b.goTo(10, true)
	tells(t, "one is filled", b.c, 0, refill.Chunk{At: 9, Left: 2}, refill.Chunk{At: 10, Left: 1})
	b.use(3)
	tells(t, "all are used", b.c, 0)
	for now := 11; now < 20; now++ {
		// The chunk at 9 was due at 19: nothing is back then.
		b.goTo(now, true)
		b.look()
		b.use(1)
		b.done()
		tells(t, "gone", b.c, 0)
		dueNever(t, "gone", b.c)
	}
	b.goTo(20, true)
	tells(t, "a period later", b.c, 0, refill.Chunk{At: 20, Left: 3})
	b.stop("gone")
}

func TestP1802GoWithNoneFree(t *testing.T) {
	b := newBoth(t, server(3, 10), 0)
	b.goTo(5, true)
	for _, now := range []int{5, 6, 10, 15, 16, 400, 0} {
		// They are live and not used, so none is missing, however late it is.
		b.goTo(now, true)
		b.look()
		tells(t, "all are live", b.c, 0, refill.Chunk{At: 5, Left: 3})
		dueAt(t, "all are live", b.c, 15)
	}
	b.goTo(401, true)
	b.use(3)
	for _, now := range []int{401, 402, 409, 403} {
		b.goTo(now, true)
		b.look()
		tells(t, "all are gone", b.c, 0)
		dueNever(t, "all are gone", b.c)
	}
	b.goTo(410, true)
	tells(t, "filled", b.c, 0, refill.Chunk{At: 410, Left: 3})
	b.stop("none free")
}

// three: of 4 ticks in 10, of which one is in a live chunk of 9, two in one of 12, one in one of 25.
func three(t *testing.T) *both {
	t.Helper()
	b := newBoth(t, server(4, 10), 0)
	b.goTo(9, true)
	b.use(2)
	b.goTo(12, true)
	b.use(1)
	b.goTo(25, true)
	tells(t, "three", b.c, 0, refill.Chunk{At: 9, Left: 1}, refill.Chunk{At: 12, Left: 2}, refill.Chunk{At: 25, Left: 1})
	b.look()
	b.stop("three")
	return b
}

func TestP1802GoBehindALiveChunk(t *testing.T) {
	b := three(t)
	dueAt(t, "three", b.c, 19)
	// A live chunk does not end when it is due, and none is missing.
	b.goTo(60, true)
	b.look()
	tells(t, "late", b.c, 0, refill.Chunk{At: 9, Left: 1}, refill.Chunk{At: 12, Left: 2}, refill.Chunk{At: 25, Left: 1})
	b.use(1)
	b.goTo(70, true)
	b.look()
	tells(t, "three again", b.c, 0, refill.Chunk{At: 12, Left: 2}, refill.Chunk{At: 25, Left: 1}, refill.Chunk{At: 70, Left: 1})
	dueAt(t, "three again", b.c, 22)
	b.stop("behind a live chunk")
}

func TestP1803DueLiveAndFreeInTheirOrder(t *testing.T) {
	b := three(t)
	for _, want := range []struct {
		due  int
		live lives
	}{
		{19, lives{{At: 9, Left: 1}, {At: 12, Left: 2}, {At: 25, Left: 1}}},
		{22, lives{{At: 12, Left: 2}, {At: 25, Left: 1}}},
		{22, lives{{At: 12, Left: 1}, {At: 25, Left: 1}}},
		{35, lives{{At: 25, Left: 1}}},
	} {
		tells(t, "in their order", b.c, 0, want.live...)
		dueAt(t, "in their order", b.c, want.due)
		b.look()
		b.use(1)
	}
	tells(t, "all are used", b.c, 0)
	dueNever(t, "all are used", b.c)
	b.use(1)
	b.look()
	b.goTo(30, false)
	tells(t, "filled", b.c, 4)
	dueNever(t, "filled", b.c)
	b.look()
	b.stop("in their order")
}

// The first chunk is the one that was laid first, be its tick a later one.
func TestP1803TheFirstOneIsTheOneLaidFirst(t *testing.T) {
	b := newBoth(t, server(3, 10), 0)
	b.goTo(25, true)
	b.use(2)
	b.goTo(3, false)
	b.goTo(10, true)
	tells(t, "laid", b.c, 0, refill.Chunk{At: 25, Left: 1}, refill.Chunk{At: 10, Left: 2})
	dueAt(t, "laid", b.c, 35)
	b.look()
	b.use(1)
	tells(t, "the first one is used up", b.c, 0, refill.Chunk{At: 10, Left: 2})
	dueAt(t, "the first one is used up", b.c, 20)
	b.look()
	b.stop("laid first")
}

func TestP1802UseOfNone(t *testing.T) {
	for _, s := range servers() {
		b := newBoth(t, s, 2)
		b.use(2)
		b.look()
		b.goTo(3, false)
		b.use(2)
		b.look()
		tells(t, "Use of none", b.c, s.C)
		b.goTo(3, true)
		b.use(s.C + 2)
		b.look()
		if b.c.Use() {
			t.Error("Use of none: true")
		}
		tells(t, "behind the last one", b.c, 0)
		b.done()
		b.use(1)
		tells(t, "Done of none", b.c, 0)
		b.stop("Use")
	}
}

func TestP1802DoneOfEachKind(t *testing.T) {
	for _, s := range servers() {
		b := newBoth(t, s, 7)
		b.done()
		tells(t, "Done of none", b.c, s.C)
		b.goTo(7, true)
		b.done()
		tells(t, "Done of one that was not used", b.c, s.C)
		dueNever(t, "Done", b.c)
		if s.C > 1 {
			b.goTo(7, true)
			b.use(s.C - 1)
			b.done()
			tells(t, "Done of one that was used in part", b.c, 1)
			b.use(1)
			b.done()
			b.look()
			tells(t, "Done twice", b.c, 1)
			b.goTo(7, true)
			tells(t, "Done, and Go", b.c, 0, refill.Chunk{At: 7, Left: 1})
			b.use(1)
		} else {
			b.goTo(7, true)
			b.use(1)
		}
		b.done()
		tells(t, "Done of none, behind the last one", b.c, 0)
		b.stop("Done")
	}
}

func TestP1802DoneOfMoreThanOne(t *testing.T) {
	b := three(t)
	b.done()
	tells(t, "Done of three", b.c, 4)
	dueNever(t, "Done of three", b.c)
	b.look()
	b.use(1)
	b = three(t)
	b.use(2)
	b.done()
	tells(t, "Done of two, one of them used in part", b.c, 2)
	b.goTo(26, true)
	tells(t, "Done, and Go", b.c, 0, refill.Chunk{At: 26, Left: 2})
	b.goTo(30, true)
	tells(t, "filled", b.c, 0, refill.Chunk{At: 26, Left: 2}, refill.Chunk{At: 30, Left: 2})
	b.look()
	b.stop("Done")
}

func TestP1802StopAndResume(t *testing.T) {
	b := three(t)
	b.use(2)
	b.halt()
	tells(t, "Stop", b.c, 2)
	for _, now := range []int{25, 26, 29} {
		b.goTo(now, true)
		b.look()
		b.use(1)
		dueNever(t, "stopped", b.c)
		tells(t, "stopped", b.c, 2)
	}
	// What is missing is filled, be it stopped or not.
	b.goTo(30, true)
	tells(t, "stopped, and a period begins", b.c, 4)
	b.halt()
	b.goTo(41, true)
	tells(t, "Stop twice", b.c, 4)
	b.done()
	b.goTo(41, true)
	tells(t, "Done of one that is stopped", b.c, 4)
	b.resume()
	tells(t, "Resume", b.c, 4)
	dueNever(t, "Resume", b.c)
	b.goTo(42, false)
	tells(t, "Resume, and not busy", b.c, 4)
	b.goTo(42, true)
	tells(t, "Resume, and Go", b.c, 0, refill.Chunk{At: 42, Left: 4})
	b.use(1)
	b.resume()
	b.resume()
	tells(t, "Resume of one that is not stopped", b.c, 0, refill.Chunk{At: 42, Left: 3})
	dueAt(t, "Resume of one that is not stopped", b.c, 52)
	b.look()
	b.stop("Stop")
}

func TestP1802StopTwiceNeedsOneResume(t *testing.T) {
	b := three(t)
	b.halt()
	b.halt()
	b.resume()
	b.goTo(26, true)
	tells(t, "one Resume", b.c, 0, refill.Chunk{At: 26, Left: 4})
	b.resume()
	b.halt()
	b.goTo(26, true)
	tells(t, "Stop behind Resume", b.c, 4)
	b.stop("Stop twice")
}

// Neither what is stopped, nor what resumes, is filled by that; the missing ones come with a period alone.
func TestP1802StopAndResumeFillNothing(t *testing.T) {
	b := newBoth(t, server(3, 10), 0)
	b.goTo(1, true)
	b.use(2)
	b.halt()
	tells(t, "Stop", b.c, 1)
	b.resume()
	tells(t, "Resume", b.c, 1)
	b.goTo(9, true)
	tells(t, "Resume, and Go", b.c, 0, refill.Chunk{At: 9, Left: 1})
	b.halt()
	b.resume()
	b.goTo(10, true)
	tells(t, "a period", b.c, 0, refill.Chunk{At: 10, Left: 3})
	b.look()
	b.stop("nothing")
}

func TestP1802Reset(t *testing.T) {
	for what, call := range map[string]func(b *both){
		"at first":                func(b *both) { *b = *newBoth(t, server(4, 10), 0) },
		"of three that are live":  func(b *both) {},
		"of one used in part":     func(b *both) { b.use(2) },
		"of one that is live":     func(b *both) { b.use(3) },
		"of all that is used":     func(b *both) { b.use(4) },
		"of some that are free":   func(b *both) { b.use(3); b.done() },
		"of all that are free":    func(b *both) { b.done() },
		"of live and of free":     func(b *both) { b.use(1); b.goTo(30, false) },
		"stopped":                 func(b *both) { b.halt() },
		"stopped, and some used":  func(b *both) { b.use(3); b.halt() },
		"stopped twice":           func(b *both) { b.halt(); b.halt() },
		"stopped, and gone on":    func(b *both) { b.halt(); b.goTo(40, true) },
		"stopped, and resumed":    func(b *both) { b.halt(); b.resume() },
		"behind a Go far away":    func(b *both) { b.goTo(maxTick, true); b.use(3) },
		"behind a Go that is low": func(b *both) { b.goTo(-maxTick, true); b.use(3) },
	} {
		b := three(t)
		call(b)
		b.look()
		for range 2 {
			b.reset()
			b.look()
			tells(t, what, b.c, 4)
			dueNever(t, what, b.c)
		}
		b.use(1)
		// From anew, and at a tick ahead of those of old.
		b.goTo(2, true)
		b.look()
		tells(t, what, b.c, 0, refill.Chunk{At: 2, Left: 4})
		b.use(4)
		// The periods are those of old.
		b.goTo(9, true)
		b.look()
		tells(t, what, b.c, 0)
		b.goTo(10, true)
		tells(t, what, b.c, 0, refill.Chunk{At: 10, Left: 4})
		b.look()
		b.stop("Reset " + what)
	}
}

func TestP1802GreatTicks(t *testing.T) {
	for _, s := range servers() {
		for _, start := range starts() {
			for _, at := range []int{start, start + 1, start + s.T - 1, start + s.T, maxTick - 2*maxPeriod, maxTick - s.T, maxTick - 1, maxTick} {
				b := newBoth(t, s, start)
				b.goTo(at, true)
				dueAt(t, "great", b.c, at+s.T)
				b.use(s.C)
				for _, step := range []int{0, 1, s.T - 1, s.T, s.T + 1, 2*s.T - 1, 2 * s.T} {
					b.goTo(at+step, true)
					b.look()
					b.use(1)
				}
				b.done()
				b.look()
				b.stop("great ticks")
			}
		}
	}
}

// At each int there is Go is taken, what is told fits, and a period begins just where one does.
func TestP1802TicksAtTheEndsOfInts(t *testing.T) {
	for _, s := range servers() {
		// Those of many ticks take long, and turn no answer here.
		if s.C > 10 {
			continue
		}
		for _, start := range starts() {
			for _, at := range numbers {
				for _, next := range numbers {
					c, p := refill.New(s, start), newPlain(s, start)
					c.Go(at, true)
					p.goTo(at, true)
					due := at + s.T
					if at > math.MaxInt-s.T {
						due = math.MaxInt
					}
					dueAt(t, "at any int", c, due)
					tells(t, "at any int", c, 0, refill.Chunk{At: at, Left: s.C})
					for range s.C {
						c.Use()
						p.use()
					}
					c.Go(next, true)
					p.goTo(next, true)
					tells(t, "and at any other one", c, 0, p.live()...)
					if t.Failed() {
						t.Fatalf("of %v, from %d on, at %d, then at %d", s, start, at, next)
					}
				}
			}
		}
	}
}

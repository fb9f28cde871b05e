package chunk_test

import (
	"math"
	"testing"

	"parclose/chunk"
)

// Short names for what is live, and to be back.
type (
	lives = []chunk.Chunk
	backs = []chunk.Back
)

// dueAt holds a Budget to when its first live chunk is due.
func dueAt(t *testing.T, what string, c *chunk.Budget, want int) {
	t.Helper()
	if n, ok := c.Due(); n != want || !ok {
		t.Errorf("%s: Due: %d, %v, not %d", what, n, ok, want)
	}
}

// dueNever: to that there is none.
func dueNever(t *testing.T, what string, c *chunk.Budget) {
	t.Helper()
	if n, ok := c.Due(); n != 0 || ok {
		t.Errorf("%s: Due: %d, %v", what, n, ok)
	}
}

func TestP1702TheChaptersExample(t *testing.T) {
	c := chunk.New(server(3, 10))
	c.Go(5, true)
	if !c.Use() {
		t.Error("Use: false")
	}
	dueAt(t, "behind Use", c, 15)
	tells(t, "behind Use", c, 0, lives{{At: 5, Left: 2, Used: 1}}, nil)
	c.Done()
	dueNever(t, "behind Done", c)
	tells(t, "behind Done", c, 2, nil, backs{{At: 15, N: 1}})
}

// spent: of 3 ticks in 10, one of which was used of a chunk of each of these, which lie within ten; no chunk is live, and one is back ten ticks behind each.
func spent(ticks ...int) *chunk.Budget {
	c := chunk.New(server(3, 10))
	for _, now := range ticks {
		c.Go(now, true)
		c.Use()
		c.Done()
	}
	return c
}

func TestP1702GoWhereSomeAreBack(t *testing.T) {
	for _, begin := range []int{0, 1, 70, 1 << 32, maxTick - 20, maxTick, math.MaxInt - 100} {
		for now := begin - 2; now <= begin+30; now++ {
			c := spent(begin)
			c.Go(now, false)
			if now < begin+10 {
				tells(t, "ahead of it", c, 2, nil, backs{{At: begin + 10, N: 1}})
			} else {
				tells(t, "from it on", c, 3, nil, nil)
			}
			dueNever(t, "not busy", c)
			c = spent(begin)
			c.Go(now, true)
			if now < begin+10 {
				tells(t, "busy, ahead of it", c, 0, lives{{At: now, Left: 2}}, backs{{At: begin + 10, N: 1}})
			} else {
				tells(t, "busy, from it on", c, 0, lives{{At: now, Left: 3}}, nil)
			}
			dueAt(t, "busy", c, now+10)
			if t.Failed() {
				t.Fatalf("begun at %d, Go(%d)", begin, now)
			}
		}
	}
}

func TestP1702GoWhereMoreThanOneIsBack(t *testing.T) {
	// Each order in which these three may be laid.
	for _, order := range [][3]int{{1, 4, 6}, {1, 6, 4}, {4, 1, 6}, {4, 6, 1}, {6, 1, 4}, {6, 4, 1}, {4, 4, 1}, {1, 4, 4}, {4, 1, 4}, {4, 4, 4}} {
		for now := -1; now <= 20; now++ {
			c := spent(order[:]...)
			free, left := 0, backs(nil)
			for _, at := range order {
				if at+10 <= now {
					free++
				} else {
					left = append(left, chunk.Back{At: at + 10, N: 1})
				}
			}
			c.Go(now, false)
			tells(t, "not busy", c, free, nil, left)
			c.Go(now, true)
			live := lives(nil)
			if free > 0 {
				live = lives{{At: now, Left: free}}
			}
			tells(t, "busy", c, 0, live, left)
			// What is free is never back a second time.
			c.Done()
			c.Go(100, false)
			tells(t, "later", c, 3, nil, nil)
			if t.Failed() {
				t.Fatalf("%v, Go(%d)", order, now)
			}
		}
	}
}

func TestP1702GoWithNoneFree(t *testing.T) {
	b := newBoth(t, server(3, 10))
	b.goTo(5, true)
	for _, now := range []int{5, 6, 14, 15, 16, 400, 0} {
		// They are live and not used, so they are not back, however late it is.
		b.goTo(now, true)
		b.look()
		tells(t, "all are live", b.c, 0, lives{{At: 5, Left: 3}}, nil)
	}
	b.use(3)
	for _, now := range []int{5, 6, 14, 0} {
		b.goTo(now, true)
		b.look()
		tells(t, "all are to be back", b.c, 0, nil, backs{{At: 15, N: 3}})
		dueNever(t, "all are to be back", b.c)
	}
	b.goTo(15, true)
	tells(t, "all are back", b.c, 0, lives{{At: 15, Left: 3}}, nil)
	b.stop("none free")
}

func TestP1702GoBehindALiveChunk(t *testing.T) {
	b := newBoth(t, server(4, 10))
	b.goTo(0, true)
	b.use(1)
	b.done()
	b.goTo(2, true)
	b.use(2)
	b.done()
	b.goTo(4, true)
	tells(t, "one", b.c, 0, lives{{At: 4, Left: 1}}, backs{{At: 10, N: 1}, {At: 12, N: 2}})
	b.goTo(10, true)
	b.goTo(12, true)
	tells(t, "three", b.c, 0, lives{{At: 4, Left: 1}, {At: 10, Left: 1}, {At: 12, Left: 2}}, nil)
	dueAt(t, "three", b.c, 14)
	b.look()
	// A live chunk does not end when it is due.
	b.goTo(50, true)
	tells(t, "late", b.c, 0, lives{{At: 4, Left: 1}, {At: 10, Left: 1}, {At: 12, Left: 2}}, nil)
	b.use(1)
	tells(t, "two", b.c, 0, lives{{At: 10, Left: 1}, {At: 12, Left: 2}}, backs{{At: 14, N: 1}})
	dueAt(t, "two", b.c, 20)
	b.use(1)
	tells(t, "one again", b.c, 0, lives{{At: 12, Left: 2}}, backs{{At: 14, N: 1}, {At: 20, N: 1}})
	dueAt(t, "one again", b.c, 22)
	b.use(1)
	tells(t, "used in part", b.c, 0, lives{{At: 12, Left: 1, Used: 1}}, backs{{At: 14, N: 1}, {At: 20, N: 1}})
	b.use(1)
	tells(t, "none", b.c, 0, nil, backs{{At: 14, N: 1}, {At: 20, N: 1}, {At: 22, N: 2}})
	dueNever(t, "none", b.c)
	b.use(1)
	b.goTo(20, true)
	tells(t, "some are back", b.c, 0, lives{{At: 20, Left: 2}}, backs{{At: 22, N: 2}})
	b.stop("behind a live chunk")
}

func TestP1702GoTwiceAtOneTick(t *testing.T) {
	// What Done makes free at a tick is a chunk again at that tick.
	b := newBoth(t, server(3, 10))
	for range 3 {
		b.goTo(5, true)
		b.goTo(5, true)
		b.use(1)
		b.done()
		b.look()
	}
	b.goTo(5, true)
	tells(t, "at one tick", b.c, 0, nil, backs{{At: 15, N: 1}, {At: 15, N: 1}, {At: 15, N: 1}})
	b.goTo(15, false)
	tells(t, "when it was due", b.c, 3, nil, nil)
	b.stop("one tick")
}

func TestP1702UseOfNone(t *testing.T) {
	for _, s := range servers() {
		b := newBoth(t, s)
		b.use(2)
		b.look()
		b.goTo(3, false)
		b.use(2)
		b.look()
		tells(t, "Use of none", b.c, s.C, nil, nil)
		b.goTo(3, true)
		b.use(s.C + 2)
		b.look()
		if b.c.Use() {
			t.Error("Use of none: true")
		}
		tells(t, "behind the last one", b.c, 0, nil, backs{{At: 3 + s.T, N: s.C}})
		b.stop("Use")
	}
}

func TestP1702DoneOfEachKind(t *testing.T) {
	for _, s := range servers() {
		b := newBoth(t, s)
		b.done()
		tells(t, "Done of none", b.c, s.C, nil, nil)
		b.goTo(7, true)
		b.done()
		tells(t, "Done of one that was not used", b.c, s.C, nil, nil)
		dueNever(t, "Done", b.c)
		if s.C > 1 {
			b.goTo(8, true)
			b.use(s.C - 1)
			b.done()
			tells(t, "Done of one that was used in part", b.c, 1, nil, backs{{At: 8 + s.T, N: s.C - 1}})
			b.use(1)
			b.done()
			b.look()
			tells(t, "Done twice", b.c, 1, nil, backs{{At: 8 + s.T, N: s.C - 1}})
		}
		b.stop("Done")
	}
}

// twoLive: of 4 ticks in 10, two of a chunk at 3, one of which was used, and two of one at 11, live.
func twoLive(t *testing.T) *both {
	t.Helper()
	b := newBoth(t, server(4, 10))
	b.goTo(1, true)
	b.use(2)
	b.done()
	b.goTo(3, true)
	b.goTo(11, true)
	b.use(1)
	tells(t, "two are live", b.c, 0, lives{{At: 3, Left: 1, Used: 1}, {At: 11, Left: 2}}, nil)
	return b
}

func TestP1702DoneOfMoreThanOne(t *testing.T) {
	b := twoLive(t)
	b.done()
	tells(t, "Done of two", b.c, 3, nil, backs{{At: 13, N: 1}})
	dueNever(t, "Done of two", b.c)
	b.look()
	b.use(1)
	b.goTo(12, true)
	tells(t, "Done, and Go", b.c, 0, lives{{At: 12, Left: 3}}, backs{{At: 13, N: 1}})
	b.stop("Done")
}

func TestP1702StopAndResume(t *testing.T) {
	b := twoLive(t)
	b.halt()
	tells(t, "Stop", b.c, 3, nil, backs{{At: 13, N: 1}})
	for _, now := range []int{11, 12, 13, 40} {
		b.goTo(now, true)
		b.look()
		b.use(1)
		dueNever(t, "stopped", b.c)
	}
	// What is back is free, be it stopped or not.
	tells(t, "stopped", b.c, 4, nil, nil)
	b.halt()
	b.goTo(41, true)
	tells(t, "Stop twice", b.c, 4, nil, nil)
	b.done()
	b.goTo(41, true)
	tells(t, "Done of one that is stopped", b.c, 4, nil, nil)
	b.resume()
	tells(t, "Resume", b.c, 4, nil, nil)
	dueNever(t, "Resume", b.c)
	b.goTo(42, false)
	tells(t, "Resume, and not busy", b.c, 4, nil, nil)
	b.goTo(42, true)
	tells(t, "Resume, and Go", b.c, 0, lives{{At: 42, Left: 4}}, nil)
	b.use(1)
	b.resume()
	b.resume()
	tells(t, "Resume of one that is not stopped", b.c, 0, lives{{At: 42, Left: 3, Used: 1}}, nil)
	dueAt(t, "Resume of one that is not stopped", b.c, 52)
	b.look()
	b.stop("Stop")
}

func TestP1702StopTwiceNeedsOneResume(t *testing.T) {
	b := twoLive(t)
	b.halt()
	b.halt()
	b.resume()
	b.goTo(11, true)
	tells(t, "one Resume", b.c, 0, lives{{At: 11, Left: 3}}, backs{{At: 13, N: 1}})
	b.resume()
	b.halt()
	b.goTo(11, true)
	tells(t, "Stop behind Resume", b.c, 3, nil, backs{{At: 13, N: 1}})
	b.stop("Stop twice")
}

func TestP1702Reset(t *testing.T) {
	for what, call := range map[string]func(b *both){
		"at first":                 func(b *both) { *b = *newBoth(t, server(4, 10)) },
		"of two that are live":     func(b *both) {},
		"of what is to be back":    func(b *both) { b.done() },
		"of all that is used":      func(b *both) { b.use(3) },
		"stopped":                  func(b *both) { b.halt() },
		"stopped twice":            func(b *both) { b.halt(); b.halt() },
		"stopped, and gone on":     func(b *both) { b.halt(); b.goTo(12, true) },
		"stopped, and resumed":     func(b *both) { b.halt(); b.resume() },
		"all free":                 func(b *both) { b.done(); b.goTo(50, false) },
		"one that is live":         func(b *both) { b.use(1) },
		"one, and some to be back": func(b *both) { b.use(2) },
	} {
		b := twoLive(t)
		call(b)
		b.look()
		for range 2 {
			b.reset()
			b.look()
			tells(t, what, b.c, 4, nil, nil)
			dueNever(t, what, b.c)
		}
		b.use(1)
		// From anew, and at a tick ahead of those of old.
		b.goTo(2, true)
		b.look()
		tells(t, what, b.c, 0, lives{{At: 2, Left: 4}}, nil)
		b.use(4)
		b.goTo(11, true)
		b.look()
		tells(t, what, b.c, 0, nil, backs{{At: 12, N: 4}})
		b.goTo(12, true)
		b.look()
		b.stop("Reset " + what)
	}
}

func TestP1702GoBack(t *testing.T) {
	// Behind a later tick an earlier one: the chunks are in the order in which they were laid, not in that of their ticks.
	b := newBoth(t, server(3, 10))
	b.goTo(20, true)
	b.use(2)
	b.done()
	b.goTo(5, true)
	b.goTo(30, true)
	tells(t, "laid", b.c, 0, lives{{At: 5, Left: 1}, {At: 30, Left: 2}}, nil)
	b.use(1)
	b.goTo(9, true)
	tells(t, "not back yet", b.c, 0, lives{{At: 30, Left: 2}}, backs{{At: 15, N: 1}})
	b.goTo(15, true)
	tells(t, "back", b.c, 0, lives{{At: 30, Left: 2}, {At: 15, Left: 1}}, nil)
	dueAt(t, "back", b.c, 40)
	b.use(2)
	dueAt(t, "the later one is first used up", b.c, 25)
	b.use(1)
	tells(t, "all used", b.c, 0, nil, backs{{At: 40, N: 2}, {At: 25, N: 1}})
	b.goTo(25, false)
	tells(t, "the last one is back first", b.c, 1, nil, backs{{At: 40, N: 2}})
	b.look()
	b.stop("Go back")
}

func TestP1702GreatTicks(t *testing.T) {
	for _, s := range servers() {
		for _, begin := range []int{0, 1, 1<<31 - 2, 1<<32 - 2, maxTick - 2*maxPeriod, maxTick - s.T, maxTick - 1, maxTick} {
			b := newBoth(t, s)
			b.goTo(begin, true)
			dueAt(t, "great", b.c, begin+s.T)
			b.use(s.C)
			b.goTo(begin+s.T-1, true)
			b.look()
			b.goTo(begin+s.T, true)
			b.look()
			b.use(1)
			b.done()
			b.look()
			b.stop("great ticks")
		}
	}
}

// At each int there is, what is used is not back at once, and what is told fits.
func TestP1702TicksAtTheEndsOfInts(t *testing.T) {
	for _, s := range servers() {
		for _, begin := range numbers {
			c := chunk.New(s)
			c.Go(begin, true)
			due := begin + s.T
			if begin > math.MaxInt-s.T {
				due = math.MaxInt
			}
			dueAt(t, "at any int", c, due)
			tells(t, "at any int", c, 0, lives{{At: begin, Left: s.C}}, nil)
			for range s.C {
				if !c.Use() {
					t.Fatalf("Use: false")
				}
			}
			tells(t, "used", c, 0, nil, backs{{At: due, N: s.C}})
			// None is back ahead of that; at the greatest int it is, if that is so far behind.
			c.Go(begin, true)
			c.Go(math.MinInt, true)
			c.Go(due-1, true)
			tells(t, "not back", c, 0, nil, backs{{At: due, N: s.C}})
			c.Go(math.MaxInt, false)
			if begin <= math.MaxInt-s.T {
				tells(t, "back", c, s.C, nil, nil)
			} else {
				tells(t, "never back", c, 0, nil, backs{{At: due, N: s.C}})
			}
			if t.Failed() {
				t.Fatalf("of %v, at %d", s, begin)
			}
		}
	}
}

package ports_test

import (
	"math"
	"testing"

	"parclose/api"
	"parclose/conf"
	"parclose/ports"
)

func TestP2102TheLastMessage(t *testing.T) {
	for _, size := range []int{-1, 0, 1, 2, 1000} {
		p := ports.New(sample(0, 1, size))
		for n := range 30 {
			for i := range n {
				if err := p.Write(0, 0, 100*n+i, n); err != api.OK {
					t.Errorf("Write: %d", err)
				}
				if w := p.Waiting(0); w != 1 {
					t.Errorf("Waiting: %d", w)
				}
			}
			if n == 0 {
				continue
			}
			// It stays, however often it is read.
			for range 4 {
				if value, _, err := p.Read(1, 0, n); value != 100*n+n-1 || err != api.OK {
					t.Errorf("Size %d: Read behind %d of them: %d, %d", size, n, value, err)
				}
				if w := p.Waiting(0); w != 1 {
					t.Errorf("Waiting behind a Read: %d", w)
				}
			}
		}
	}
}

// freshAt holds a Read at now, of a message that was written at a tick, to whether it is fresh.
func freshAt(t *testing.T, size, at, now, want int) {
	t.Helper()
	p := ports.New(sample(0, 1, size))
	p.Write(0, 0, 42, at)
	for range 2 {
		if value, is, err := p.Read(1, 0, now); value != 42 || is != want || err != api.OK {
			t.Errorf("Size %d, written at %d: Read at %d: %d, %d, %d, not %d", size, at, now, value, is, err, want)
		}
	}
}

func TestP2102FreshForSoManyTicks(t *testing.T) {
	for _, size := range []int{0, 1, 2, 9, 10, 255, 256, 999, 1000, 4096, 4097, 1 << 16, 1 << 32, 1 << 60} {
		for _, at := range []int{0, 1, 5, 1000, 1 << 32, 1 << 61, 1<<62 - 7, -3, -1 << 61} {
			for _, behind := range []int{0, size / 2, size - 1, size} {
				if behind >= 0 {
					freshAt(t, size, at, at+behind, 1)
				}
			}
			for _, more := range []int{1, 2, 3, 1000, 1 << 33} {
				freshAt(t, size, at, at+size+more, 0)
			}
			// Ahead of its writing, however far.
			for _, ahead := range []int{1, 2, size, size + 1, 1000, 1 << 61} {
				if ahead > 0 {
					freshAt(t, size, at, at-ahead, 1)
				}
			}
		}
	}
}

func TestP2102FreshWithASizeBelow0(t *testing.T) {
	for _, size := range []int{-1, -2, -10, -1000, -1 << 32, -1 << 60} {
		for _, at := range []int{0, 1, 1 << 61, -3} {
			// At its writing, and behind it, never.
			for _, behind := range []int{0, 1, -size, 1000} {
				freshAt(t, size, at, at+behind, 0)
			}
			// Ahead of it by its words: so many ticks behind as Size says are as many ticks ahead.
			freshAt(t, size, at, at+size+1, 0)
			freshAt(t, size, at, at+size, 1)
			freshAt(t, size, at, at+size-1, 1)
		}
	}
}

func TestP2102FreshWhereTicksAreFarApart(t *testing.T) {
	rows := []struct{ size, at, now, want int }{
		{math.MaxInt, 0, math.MaxInt, 1}, {math.MaxInt - 1, 0, math.MaxInt, 0}, {math.MaxInt - 1, 1, math.MaxInt, 1},
		{math.MaxInt, -1, math.MaxInt, 0}, {math.MaxInt, -1, math.MaxInt - 1, 1}, {math.MaxInt, math.MinInt, math.MaxInt, 0},
		{math.MaxInt, math.MinInt, -1, 1}, {math.MaxInt, math.MinInt, 0, 0}, {math.MaxInt, math.MinInt, math.MinInt, 1},
		{math.MaxInt, math.MaxInt, math.MaxInt, 1}, {math.MaxInt, math.MaxInt, math.MinInt, 1}, {0, math.MaxInt, math.MinInt, 1},
		{0, math.MinInt, math.MaxInt, 0}, {0, math.MinInt, 0, 0}, {0, math.MinInt, math.MinInt, 1}, {1, math.MaxInt, math.MaxInt, 1}, {1, math.MaxInt, 0, 1},
		{1 << 62, 0, 1 << 62, 1}, {1 << 62, 0, 1<<62 + 1, 0}, {1 << 62, 1 << 62, math.MaxInt, 1}, {1 << 62, -1 << 62, 0, 1}, {1 << 62, -1 << 62, 1, 0},
		{-1, math.MinInt, math.MinInt, 0}, {-1, math.MaxInt, math.MaxInt, 0}, {-1, math.MaxInt, math.MinInt, 1}, {-1, math.MinInt, math.MaxInt, 0},
		{math.MinInt, math.MaxInt, math.MinInt, 1}, {math.MinInt, math.MaxInt, -1, 1}, {math.MinInt, math.MaxInt, 0, 0}, {math.MinInt, 0, math.MinInt, 1},
		{math.MinInt, 0, math.MinInt + 1, 0}, {math.MinInt, -1, math.MinInt, 0}, {math.MinInt, math.MinInt, math.MaxInt, 0}, {math.MinInt, 5, 5, 0},
	}
	for _, r := range rows {
		freshAt(t, r.size, r.at, r.now, r.want)
	}
	for _, size := range numbers {
		for _, at := range numbers {
			for _, now := range numbers {
				freshAt(t, size, at, now, fresh(at, now, size))
			}
		}
	}
}

func TestP2102FreshSinceItsOwnWriting(t *testing.T) {
	p := ports.New(sample(0, 1, 3))
	// Written anew it is fresh anew, also with the same value; at an earlier tick it is so much older.
	for _, r := range []struct{ at, now, want int }{
		{10, 13, 1}, {10, 14, 0}, {14, 17, 1}, {14, 18, 0}, {5, 8, 1}, {5, 9, 0}, {18, 19, 1}, {0, 3, 1}, {0, 18, 0}, {18, 21, 1}, {18, 22, 0}, {-5, -2, 1}, {-5, -1, 0},
	} {
		if err := p.Write(0, 0, 6, r.at); err != api.OK {
			t.Errorf("Write at %d: %d", r.at, err)
		}
		for range 2 {
			if value, is, err := p.Read(1, 0, r.now); value != 6 || is != r.want || err != api.OK {
				t.Errorf("written at %d: Read at %d: %d, %d, %d, not %d", r.at, r.now, value, is, err, r.want)
			}
		}
	}
}

func TestP2102AReadLeavesTheWritingAsItIs(t *testing.T) {
	// Reads at any ticks, those that are refused too, and it is as old as it was.
	b := newBoth(t, sample(0, 1, 100), sample(2, 1, 0))
	b.write(0, 0, 8, 1000)
	for _, now := range append([]int{1099, 1100, 1101, 1100, 1099}, numbers...) {
		b.read(1, 0, now)
		b.read(0, 0, now)
		b.read(1, 1, now)
		b.read(1, 0, 1100)
		b.read(1, 0, 1101)
		b.write(2, 0, 9, now)
		b.write(2, 1, 9, now)
		b.look()
	}
	b.stop("a Read")
}

func TestP2102NoneUntilItIsWritten(t *testing.T) {
	for _, c := range []conf.Channel{sample(0, 1, 5), sample(0, 1, 0), sample(0, 1, -5), sample(0, 1, math.MaxInt)} {
		p := ports.New(c)
		for _, now := range numbers {
			if value, is, err := p.Read(1, 0, now); value != 0 || is != 0 || err != api.ErrEmpty {
				t.Errorf("%v: Read at %d: %d, %d, %d", c, now, value, is, err)
			}
		}
		// What is refused is no message.
		p.Write(1, 0, 5, 0)
		p.Write(0, 1, 5, 0)
		if value, is, err := p.Read(1, 0, 0); value != 0 || is != 0 || err != api.ErrEmpty {
			t.Errorf("%v: Read: %d, %d, %d", c, value, is, err)
		}
		// A message of 0, at 0, is one.
		p.Write(0, 0, 0, 0)
		if value, is, err := p.Read(1, 0, 0); value != 0 || is != fresh(0, 0, c.Size) || err != api.OK {
			t.Errorf("%v: Read of a 0: %d, %d, %d", c, value, is, err)
		}
		if n := p.Waiting(0); n != 1 {
			t.Errorf("%v: Waiting: %d", c, n)
		}
	}
}

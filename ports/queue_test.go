package ports_test

import (
	"math"
	"testing"

	"parclose/api"
	"parclose/ports"
)

// wrote, reads: a call of a Queue, and what it has to be answered.
func wrote(t *testing.T, p *ports.Ports, value int) {
	t.Helper()
	if err := p.Write(0, 0, value, 0); err != api.OK {
		t.Fatalf("Write %d: %d", value, err)
	}
}

func reads(t *testing.T, p *ports.Ports, value, lost int, want api.Errno) {
	t.Helper()
	if x, n, err := p.Read(1, 0, 0); x != value || n != lost || err != want {
		t.Fatalf("Read: %d, %d, %d, not %d, %d, %d", x, n, err, value, lost, want)
	}
}

func holds(t *testing.T, p *ports.Ports, n int) {
	t.Helper()
	if got := p.Waiting(0); got != n {
		t.Fatalf("Waiting: %d, not %d", got, n)
	}
}

// sizes: of Queues, and how many messages one holds.
var sizes = []struct{ size, room int }{
	{1, 1}, {2, 2}, {3, 3}, {4, 4}, {5, 5}, {8, 8}, {15, 15}, {16, 16}, {17, 17}, {255, 255}, {256, 256}, {257, 257}, {1000, 1000}, {1001, 1001},
	{2048, 2048}, {4094, 4094}, {4095, 4095}, {4096, 4096}, {4097, 4096}, {4098, 4096}, {8192, 4096}, {1 << 16, 4096}, {1 << 32, 4096},
	{1<<32 + 1, 4096}, {1 << 62, 4096}, {math.MaxInt - 1, 4096}, {math.MaxInt, 4096},
}

func TestP2102AQueueOfASize(t *testing.T) {
	for _, s := range sizes {
		for _, more := range []int{0, 1, 2, 100} {
			p := ports.New(queue(0, 1, s.size))
			for n := range s.room {
				holds(t, p, n)
				wrote(t, p, n+1)
			}
			for n := range more {
				holds(t, p, s.room)
				wrote(t, p, -n-1)
			}
			// The first ones are there, and how many there was no room for is told with the first of them.
			lost := more
			for n := range s.room {
				holds(t, p, s.room-n)
				reads(t, p, n+1, lost, api.OK)
				lost = 0
			}
			for range 3 {
				holds(t, p, 0)
				reads(t, p, 0, 0, api.ErrEmpty)
			}
			// And as many go in anew.
			for n := range s.room + more {
				wrote(t, p, 7*n)
			}
			holds(t, p, s.room)
			reads(t, p, 0, more, api.OK)
		}
	}
}

func TestP2102AQueueOfNoRoom(t *testing.T) {
	for _, size := range []int{0, -1, -2, -16, -4096, -1 << 32, -1 << 62, math.MinInt + 1, math.MinInt} {
		p := ports.New(queue(0, 1, size))
		for n := range 5 {
			for range n {
				wrote(t, p, n)
				holds(t, p, 0)
			}
			reads(t, p, 0, 0, api.ErrEmpty)
		}
		p.Clear(1)
		wrote(t, p, 5)
		reads(t, p, 0, 0, api.ErrEmpty)
	}
}

func TestP2102InTheOrderInWhichTheyCame(t *testing.T) {
	for _, size := range []int{1, 2, 3, 5, 8, 16, 17, 100, 4096} {
		for _, turn := range []struct{ writes, reads int }{{1, 1}, {2, 2}, {3, 2}, {2, 3}, {5, 5}, {17, 16}, {16, 17}, {4096, 1}, {1, 20}} {
			p := ports.New(queue(0, 1, size))
			var in []int
			next, lost := 0, 0
			for next < 20000 {
				for range turn.writes {
					next++
					wrote(t, p, next)
					if len(in) < size {
						in = append(in, next)
					} else {
						lost++
					}
				}
				holds(t, p, len(in))
				for range turn.reads {
					if len(in) == 0 {
						reads(t, p, 0, 0, api.ErrEmpty)
						continue
					}
					reads(t, p, in[0], lost, api.OK)
					in, lost = in[1:], 0
				}
				holds(t, p, len(in))
			}
		}
	}
}

func TestP2102ForLongWithoutALoss(t *testing.T) {
	// As long as there is room, nothing is lost, however many there were, and however full it stays.
	for _, size := range []int{1, 2, 7, 16, 4096} {
		for in := range min(size, 9) {
			p := ports.New(queue(0, 1, size))
			for n := range in {
				wrote(t, p, n)
			}
			for n := range 3*size + 10000 {
				wrote(t, p, n+in)
				reads(t, p, n, 0, api.OK)
				holds(t, p, in)
			}
		}
	}
}

func TestP2102EachValueOfAnInt(t *testing.T) {
	for _, value := range numbers {
		for _, now := range numbers {
			p := ports.New(queue(0, 1, 2), sample(0, 1, 2))
			for channel := range 2 {
				for _, x := range []int{value, ^value} {
					if err := p.Write(0, channel, x, now); err != api.OK {
						t.Errorf("Write(0, %d, %d, %d): %d", channel, x, now, err)
					}
				}
			}
			for _, x := range []int{value, ^value} {
				if got, lost, err := p.Read(1, 0, now); got != x || lost != 0 || err != api.OK {
					t.Errorf("Read of %d at %d: %d, %d, %d", x, now, got, lost, err)
				}
				if got, is, err := p.Read(1, 1, now); got != ^value || is != 1 || err != api.OK {
					t.Errorf("Read of %d at %d: %d, %d, %d", ^value, now, got, is, err)
				}
			}
		}
	}
}

func TestP2102LostIsToldOnce(t *testing.T) {
	for _, size := range []int{1, 2, 3, 9} {
		for lost := range 12 {
			p := ports.New(queue(0, 1, size))
			for n := range size + lost {
				wrote(t, p, n)
			}
			reads(t, p, 0, lost, api.OK)
			for n := 1; n < size; n++ {
				reads(t, p, n, 0, api.OK)
			}
			reads(t, p, 0, 0, api.ErrEmpty)
			// Nor is it told later.
			wrote(t, p, 5)
			reads(t, p, 5, 0, api.OK)
		}
	}
}

func TestP2102LostSinceTheLastRead(t *testing.T) {
	for _, size := range []int{1, 2, 3, 9} {
		p := ports.New(queue(0, 1, size))
		first := 0
		for n := range size {
			wrote(t, p, n)
		}
		for round := range 40 {
			// So many are lost, then one is read, and there is room for one.
			for range round % 7 {
				wrote(t, p, -1)
			}
			reads(t, p, first, round%7, api.OK)
			first++
			wrote(t, p, first+size-1)
			holds(t, p, size)
		}
		// Those of several rounds in which none was read count together.
		for range 5 {
			wrote(t, p, -1)
			if err := p.Write(1, 0, 3, 0); err != api.ErrArg {
				t.Errorf("Write by the reader: %d", err)
			}
			wrote(t, p, -1)
		}
		reads(t, p, first, 10, api.OK)
	}
}

func TestP2102VeryManyAreLost(t *testing.T) {
	p := ports.New(queue(0, 1, 2))
	for n := range 200002 {
		wrote(t, p, n)
	}
	holds(t, p, 2)
	reads(t, p, 0, 200000, api.OK)
	reads(t, p, 1, 0, api.OK)
}

func TestP2102WhatIsRefusedLeavesTheNumberOfTheLost(t *testing.T) {
	for lost := range 6 {
		p := ports.New(queue(0, 1, 2), queue(0, 1, 1), sample(0, 1, 1), queue(0, 2, 1))
		p.Write(0, 2, 9, 0)
		for n := range 2 + lost {
			wrote(t, p, n)
			// Reads by others, of no channel, of an empty one, and of another one that tells a message.
			for _, part := range []int{0, 2, -1, 3} {
				if x, m, err := p.Read(part, 0, n); x != 0 || m != 0 || err != api.ErrArg {
					t.Errorf("Read by %d: %d, %d, %d", part, x, m, err)
				}
			}
			for _, channel := range []int{-1, 3, 4} {
				if x, m, err := p.Read(1, channel, n); x != 0 || m != 0 || err != api.ErrArg {
					t.Errorf("Read of %d: %d, %d, %d", channel, x, m, err)
				}
			}
			if x, m, err := p.Read(1, 1, n); x != 0 || m != 0 || err != api.ErrEmpty {
				t.Errorf("Read of an empty one: %d, %d, %d", x, m, err)
			}
			if x, _, err := p.Read(1, 2, n); x != 9 || err != api.OK {
				t.Errorf("Read of another one: %d, %d", x, err)
			}
			// Writes that are refused are not lost ones.
			p.Write(1, 0, 5, 0)
			p.Write(0, 4, 5, 0)
			p.Write(0, -1, 5, 0)
		}
		reads(t, p, 0, lost, api.OK)
		reads(t, p, 1, 0, api.OK)
		for range 3 {
			reads(t, p, 0, 0, api.ErrEmpty)
		}
		wrote(t, p, 8)
		reads(t, p, 8, 0, api.OK)
	}
}

package ports_test

import (
	"testing"

	"parclose/api"
	"parclose/conf"
	"parclose/ports"
)

// shaped: of these channels, to each came so many messages, none, one or more, and of some one was read.
func shaped(t *testing.T, shape int, l ...conf.Channel) *both {
	t.Helper()
	b := newBoth(t, l...)
	for channel, c := range l {
		for n := range (shape + 3*channel) % 8 {
			b.write(c.From, channel, 100*channel+n, n)
		}
		if (shape+channel)%3 == 0 {
			b.read(c.To, channel, 7)
		}
	}
	return b
}

func TestP2103ClearOfAPart(t *testing.T) {
	lists := [][]conf.Channel{
		nil, mixed(), many(40), {queue(0, 1, 2)}, {sample(0, 1, 2)}, {queue(0, 1, 1), queue(0, 1, 1)}, {sample(0, 1, 1), sample(2, 1, 0)},
		{queue(1, 1, 2), sample(1, 1, 2), queue(1, 0, 2), sample(0, 1, 2)}, {queue(0, 1, 0), queue(0, 1, -1), sample(0, 1, -1)}, {queue(-1, 5, 2), sample(5, -1, 2)},
	}
	for _, l := range lists {
		for shape := range 24 {
			for _, part := range append([]int{10, 11, 1<<32 + 1}, numbers...) {
				b := shaped(t, shape, l...)
				b.clear(part)
				b.lookFar()
				// Once more, as of channels that hold nothing.
				b.clear(part)
				b.look()
				// All that holds something yet is read, what was lost there too, and all is written to anew.
				b.drain(9)
				for channel, c := range l {
					for n := range 3 {
						b.write(c.From, channel, n, 9)
					}
				}
				b.look()
				b.drain(10)
				b.stop("Clear of a part")
			}
		}
	}
}

func TestP2103AClearedQueue(t *testing.T) {
	for _, s := range sizes {
		p := ports.New(queue(0, 1, s.size))
		for round := range 3 {
			for n := range s.room + round {
				wrote(t, p, n)
			}
			p.Clear(1)
			holds(t, p, 0)
			reads(t, p, 0, 0, api.ErrEmpty)
			// There is room for as many as at first, in their order, and none was lost.
			for n := range s.room {
				wrote(t, p, n+5)
			}
			holds(t, p, s.room)
			for n := range s.room {
				reads(t, p, n+5, 0, api.OK)
			}
			reads(t, p, 0, 0, api.ErrEmpty)
		}
	}
}

func TestP2103WhatWasLostIsForgotten(t *testing.T) {
	for _, size := range []int{1, 2, 3} {
		for lost := range 5 {
			p := ports.New(queue(0, 1, size))
			for n := range size + 3 {
				wrote(t, p, n)
			}
			p.Clear(1)
			// What is lost behind it is told alone.
			for n := range size + lost {
				wrote(t, p, 10+n)
			}
			reads(t, p, 10, lost, api.OK)
		}
	}
}

func TestP2103AClearedSample(t *testing.T) {
	for _, size := range []int{-2, 0, 3, 1000} {
		p := ports.New(sample(0, 1, size))
		for round := range 4 {
			at := 50 - 20*round
			p.Write(0, 0, 7+round, at)
			holds(t, p, 1)
			p.Clear(1)
			holds(t, p, 0)
			for _, now := range []int{at - 1, at, at + 1, 0, 1 << 62} {
				if value, is, err := p.Read(1, 0, now); value != 0 || is != 0 || err != api.ErrEmpty {
					t.Errorf("Size %d: Read at %d behind Clear: %d, %d, %d", size, now, value, is, err)
				}
			}
			// Written anew it is as old as that writing.
			p.Write(0, 0, 70+round, at-5)
			for _, now := range []int{at - 5, at - 5 + size, at - 4 + size} {
				if value, is, err := p.Read(1, 0, now); value != 70+round || is != fresh(at-5, now, size) || err != api.OK {
					t.Errorf("Size %d, written at %d: Read at %d: %d, %d, %d", size, at-5, now, value, is, err)
				}
			}
			holds(t, p, 1)
		}
	}
}

// Of channels of both kinds from 1, to 1, and of others, each full, and two too many came to each Queue.
func TestP2103JustTheChannelsToThePart(t *testing.T) {
	l := []conf.Channel{queue(0, 1, 2), sample(0, 1, 9), queue(1, 0, 2), sample(1, 0, 9), queue(2, 1, 2), sample(2, 1, 9), queue(1, 2, 2), sample(1, 2, 9), queue(0, 2, 2), sample(2, 0, 9), queue(1, 1, 2), sample(1, 1, 9)}
	for part := -1; part < 4; part++ {
		p := ports.New(l...)
		for channel, c := range l {
			for n := range 4 {
				p.Write(c.From, channel, 10*channel+n, 5)
			}
		}
		p.Clear(part)
		for channel, c := range l {
			value, beside, in, want := 10*channel, 2, 2, api.OK
			if !c.Queue {
				value, beside, in = 10*channel+3, 1, 1
			}
			if c.To == part {
				value, beside, in, want = 0, 0, 0, api.ErrEmpty
			}
			if n := p.Waiting(channel); n != in {
				t.Errorf("Clear(%d), %v: Waiting: %d, not %d", part, c, n, in)
			}
			if x, m, err := p.Read(c.To, channel, 5); x != value || m != beside || err != want {
				t.Errorf("Clear(%d), %v: Read: %d, %d, %d, not %d, %d, %d", part, c, x, m, err, value, beside, want)
			}
		}
	}
}

func TestP2103Waiting(t *testing.T) {
	l := mixed()
	b := newBoth(t, l...)
	b.lookFar()
	for n := range 6 {
		for channel, c := range l {
			b.write(c.From, channel, n, n)
			want := 1
			if c.Queue {
				want = min(n+1, c.Size)
			}
			if got := b.p.Waiting(channel); got != want {
				t.Errorf("%v, behind %d: Waiting: %d, not %d", c, n+1, got, want)
			}
		}
		b.lookFar()
	}
	for n := range 6 {
		for channel, c := range l {
			b.read(c.To, channel, n)
			want := 1
			if c.Queue {
				want = max(c.Size-n-1, 0)
			}
			if got := b.p.Waiting(channel); got != want {
				t.Errorf("%v, behind %d Reads: Waiting: %d, not %d", c, n+1, got, want)
			}
		}
		b.lookFar()
	}
	b.stop("Waiting")
}

func TestP2103WaitingOfAChannelThereIsNone(t *testing.T) {
	for n := range len(mixed()) + 1 {
		b := filled(t, mixed()[:n]...)
		for _, channel := range append([]int{-n, n, n + 1, 2 * n}, numbers...) {
			if got := b.p.Waiting(channel); (channel < 0 || channel >= n) && got != 0 {
				t.Errorf("Waiting(%d) of %d channels: %d", channel, n, got)
			}
		}
		b.look()
		b.stop("Waiting")
	}
}

package ports_test

import (
	"testing"

	"parclose/api"
	"parclose/conf"
	"parclose/ports"
)

func TestP2102TheChaptersExample(t *testing.T) {
	p := ports.New(queue(0, 1, 1))
	for _, value := range []int{5, 6} {
		if err := p.Write(0, 0, value, 0); err != api.OK {
			t.Errorf("Write %d: %d", value, err)
		}
	}
	if value, lost, err := p.Read(1, 0, 0); value != 5 || lost != 1 || err != api.OK {
		t.Errorf("Read: %d, %d, %d", value, lost, err)
	}
	if value, lost, err := p.Read(1, 0, 0); value != 0 || lost != 0 || err != api.ErrEmpty {
		t.Errorf("Read: %d, %d, %d", value, lost, err)
	}
}

// filled: of these channels, two messages came to each, of values and ticks of their own.
func filled(t *testing.T, l ...conf.Channel) *both {
	t.Helper()
	b := newBoth(t, l...)
	for channel, c := range l {
		b.write(c.From, channel, 100*channel+1, 10)
		b.write(c.From, channel, 100*channel+2, 11)
	}
	return b
}

// refused holds a Write and a Read to ErrArg.
func (b *both) refused(part, channel int) {
	b.t.Helper()
	for _, n := range []int{0, 7, 1 << 62} {
		if err := b.p.Write(part, channel, n, 11); err != api.ErrArg {
			b.t.Errorf("Write(%d, %d, %d, 11): %d", part, channel, n, err)
		}
		if value, beside, err := b.p.Read(part, channel, n); value != 0 || beside != 0 || err != api.ErrArg {
			b.t.Errorf("Read(%d, %d, %d): %d, %d, %d", part, channel, n, value, beside, err)
		}
	}
}

func TestP2102AChannelThereIsNone(t *testing.T) {
	for n := range len(mixed()) + 1 {
		b := filled(t, mixed()[:n]...)
		for _, channel := range append([]int{-n, -1, n, n + 1, n + len(mixed())}, numbers...) {
			if 0 <= channel && channel < n {
				continue
			}
			for part := range 3 {
				b.refused(part, channel)
			}
			b.waiting(channel)
		}
		b.look()
		b.drain(12)
		b.stop("a channel there is none")
	}
}

func TestP2102WhoMayWriteAndRead(t *testing.T) {
	// Each part, at each channel: writes go by From, reads by To, and what is refused changes nothing.
	for _, kind := range []bool{true, false} {
		for from := range 4 {
			for to := range 4 {
				c := conf.Channel{Queue: kind, From: from, To: to, Size: 2}
				for _, part := range append([]int{from - 1, to + 1, from - 6, from + 1<<32, -from}, numbers...) {
					b := filled(t, sample(part, part, 3), c, queue(part, part, 3))
					want := api.ErrArg
					if part == from {
						want = api.OK
					}
					if err := b.p.Write(part, 1, 9, 12); err != want {
						t.Errorf("%v: Write by %d: %d, not %d", c, part, err, want)
					}
					if want == api.OK {
						b.lines[1].come(message{9, 12})
					}
					b.look()
					want = api.ErrArg
					if part == to {
						want = api.OK
					}
					if _, _, err := b.p.Read(part, 1, 12); err != want {
						t.Errorf("%v: Read by %d: %d, not %d", c, part, err, want)
					}
					if want == api.OK {
						b.lines[1].leave(12)
					}
					b.look()
					b.drain(12)
					b.stop("who may write and read")
				}
			}
		}
	}
}

func TestP2102PartsOfAnyNumber(t *testing.T) {
	// A part is one that is named at a channel's end, whatever its number; none is taken for another one.
	for _, from := range numbers {
		for _, to := range numbers {
			b := filled(t, queue(from, to, 1), sample(from, to, 1))
			for _, part := range numbers {
				if part != from && part != to {
					b.refused(part, 0)
					b.refused(part, 1)
				}
			}
			b.drain(12)
			b.drain(13)
			b.stop("parts of any number")
		}
	}
}

func TestP2102FromAndToOnePart(t *testing.T) {
	for part := -1; part < 7; part++ {
		b := newBoth(t, queue(part, part, 2), sample(part, part, 4), queue(part, part+1, 2), sample(part+1, part, 4))
		for n := range 5 {
			for channel := range 4 {
				b.write(part, channel, 10*n+channel, n)
				b.write(part+1, channel, 10*n+channel, n)
			}
			b.look()
			if n%2 == 0 {
				for channel := range 4 {
					b.read(part, channel, n+4)
				}
			}
			b.look()
		}
		b.drain(9)
		b.clear(part)
		b.drain(9)
		b.stop("From and To one part")
	}
	p := ports.New(queue(2, 2, 1))
	for n := range 3 {
		if err := p.Write(2, 0, n, n); err != api.OK {
			t.Errorf("Write: %d", err)
		}
		if value, lost, err := p.Read(2, 0, n); value != n || lost != 0 || err != api.OK {
			t.Errorf("Read: %d, %d, %d", value, lost, err)
		}
	}
}

// besideEachOther: a row of calls of one of two channels, and the other one, that has the same ends, is as it was.
func besideEachOther(t *testing.T, one, other conf.Channel) {
	t.Helper()
	for _, at := range []int{0, 1} {
		l := []conf.Channel{one, other}
		if at == 1 {
			l = []conf.Channel{other, one}
		}
		b := newBoth(t, l...)
		b.write(other.From, 1-at, 77, 3)
		for n := range 5 {
			b.write(one.From, at, n, n)
			b.look()
		}
		for range 4 {
			b.read(one.To, at, 6)
			b.look()
		}
		if n := b.p.Waiting(1 - at); n != 1 {
			t.Errorf("%v beside %v: Waiting: %d", other, one, n)
		}
		beside := 1
		if other.Queue {
			beside = 0
		}
		if value, m, err := b.p.Read(other.To, 1-at, 3); value != 77 || m != beside || err != api.OK {
			t.Errorf("%v beside %v: Read: %d, %d, %d", other, one, value, m, err)
		}
		b.stop("beside each other")
	}
}

func TestP2102TwoChannelsOfOnePart(t *testing.T) {
	for _, size := range []int{1, 2, 3, 9} {
		for _, one := range []conf.Channel{queue(0, 1, size), sample(0, 1, size)} {
			// Of the same ends, alike; of another size; of another kind; one that comes from, or leads to, another part.
			for _, other := range []conf.Channel{one, queue(0, 1, 5), sample(0, 1, 5), queue(2, 1, 5), sample(2, 1, 5), queue(0, 2, 5), sample(0, 2, 5), queue(1, 0, 5), sample(1, 0, 5)} {
				besideEachOther(t, one, other)
			}
		}
	}
}

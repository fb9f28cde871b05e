package ports_test

import (
	"slices"
	"testing"

	"parclose/api"
	"parclose/conf"
	"parclose/ports"
)

// isNone holds Ports of no channel to their answers, whatever they are handed.
func isNone(t *testing.T, what string, p *ports.Ports) {
	t.Helper()
	for _, part := range numbers {
		for _, channel := range numbers {
			for _, x := range []int{0, 1, -1, 1 << 62, part, channel} {
				if err := p.Write(part, channel, x, channel); err != api.ErrArg {
					t.Errorf("%s: Write(%d, %d, %d, %d): %d", what, part, channel, x, channel, err)
				}
				if err := p.Write(part, channel, channel, x); err != api.ErrArg {
					t.Errorf("%s: Write(%d, %d, %d, %d): %d", what, part, channel, channel, x, err)
				}
				if value, beside, err := p.Read(part, channel, x); value != 0 || beside != 0 || err != api.ErrArg {
					t.Errorf("%s: Read(%d, %d, %d): %d, %d, %d", what, part, channel, x, value, beside, err)
				}
			}
		}
		p.Clear(part)
		if n := p.Waiting(part); n != 0 {
			t.Errorf("%s: Waiting(%d): %d", what, part, n)
		}
	}
	if t.Failed() {
		t.FailNow()
	}
}

func TestP2101NilPorts(t *testing.T) {
	// And once more, as it stays so.
	for range 2 {
		isNone(t, "nil Ports", nil)
	}
}

func TestP2101PortsThatNewDidNotMake(t *testing.T) {
	var p ports.Ports
	made := ports.New(mixed()...)
	made.Write(0, 0, 5, 0)
	made.Write(0, 1, 6, 0)
	*made = ports.Ports{}
	for what, a := range map[string]*ports.Ports{"the zero Ports": &p, "new Ports": new(ports.Ports), "a literal": {}, "ones that were made zero": made} {
		for range 2 {
			isNone(t, what, a)
		}
	}
}

func TestP2101NewOfNoChannels(t *testing.T) {
	for what, l := range map[string][]conf.Channel{"nil": nil, "none": {}, "none, with room": make([]conf.Channel, 0, 9), "none of some": mixed()[:0]} {
		p := ports.New(l...)
		if p == nil {
			t.Fatalf("New of %s: nil", what)
		}
		isNone(t, "those of "+what, p)
	}
	if p := ports.New(); p == nil {
		t.Error("New(): nil")
	}
}

// holdsNothing holds Ports to what new ones tell of their channels.
func holdsNothing(t *testing.T, p *ports.Ports, l []conf.Channel) {
	t.Helper()
	for channel, c := range l {
		for range 2 {
			if n := p.Waiting(channel); n != 0 {
				t.Errorf("%v: Waiting(%d): %d", c, channel, n)
			}
			if value, beside, err := p.Read(c.To, channel, 0); value != 0 || beside != 0 || err != api.ErrEmpty {
				t.Errorf("%v: Read(%d, %d, 0): %d, %d, %d", c, c.To, channel, value, beside, err)
			}
		}
	}
}

// many: so many channels, of both kinds, each of other ends and another size than the ones next to it.
func many(n int) []conf.Channel {
	var l []conf.Channel
	for i := range n {
		l = append(l, conf.Channel{Queue: i%3 != 1, From: i % 5, To: i % 7, Size: 1 + i%4})
	}
	return l
}

func TestP2101NewOfSoMany(t *testing.T) {
	for _, n := range []int{1, 2, 3, 7, 8, 9, 17, 64, 255, 256, 257, 1000, 1 << 16} {
		l := many(n)
		p := ports.New(l...)
		if p == nil {
			t.Fatalf("New of %d channels: nil", n)
		}
		holdsNothing(t, p, l)
		// A message of its own to each of them, and one more: a Queue takes what it has room for, another one the last.
		for channel, c := range l {
			for i := range 2 {
				if err := p.Write(c.From, channel, 10*channel+i, channel); err != api.OK {
					t.Fatalf("%v, %d of %d: Write: %d", c, channel, n, err)
				}
			}
		}
		for channel, c := range l {
			first, beside, in := 10*channel, 0, min(2, c.Size)
			if c.Queue {
				beside = 2 - in
			} else {
				first, beside, in = first+1, 1, 1
			}
			if got := p.Waiting(channel); got != in {
				t.Errorf("%v, %d of %d: Waiting: %d, not %d", c, channel, n, got, in)
			}
			if value, m, err := p.Read(c.To, channel, channel+c.Size); value != first || m != beside || err != api.OK {
				t.Errorf("%v, %d of %d: Read: %d, %d, %d, not %d, %d", c, channel, n, value, m, err, first, beside)
			}
		}
		for _, channel := range []int{-n, -1, n, n + 1} {
			if err := p.Write(channel%5, channel, 1, 1); err != api.ErrArg {
				t.Errorf("Write to %d of %d: %d", channel, n, err)
			}
		}
		if t.Failed() {
			t.FailNow()
		}
	}
}

func TestP2101NewOfOne(t *testing.T) {
	for _, c := range append(mixed(), conf.Channel{}, queue(3, 3, 1), sample(3, 3, 1), queue(-1, -2, 1), sample(-1, -2, -3)) {
		holdsNothing(t, ports.New(c), []conf.Channel{c})
		b := newBoth(t, c)
		b.lookFar()
		b.drain(0)
		for n := range 6 {
			b.write(c.From, 0, 3*n+1, n)
			b.lookFar()
		}
		b.drain(7)
		b.drain(70)
		b.stop("New of one")
	}
}

func TestP2101NewOfChannelsThatMayNotBe(t *testing.T) {
	// Ends that no partition is, and sizes that no system has, are taken as they are.
	var l []conf.Channel
	for i, n := range numbers {
		end := numbers[len(numbers)-1-i]
		l = append(l, queue(n, end, n), sample(n, end, n), queue(n, n, end), sample(end, end, n))
	}
	was := slices.Clone(l)
	p := ports.New(l...)
	if p == nil {
		t.Fatal("New: nil")
	}
	holdsNothing(t, p, l)
	if !slices.Equal(l, was) {
		t.Error("New: the list is another one now")
	}
	b := newBoth(t, l...)
	for channel, c := range l {
		for n := range 3 {
			b.write(c.From, channel, n-1, n)
		}
	}
	b.lookFar()
	b.drain(4)
	b.stop("channels that may not be")
}

package ports_test

import (
	"slices"
	"sync"
	"testing"

	"parclose/api"
	"parclose/conf"
	"parclose/ports"
)

// goes: each call of Ports, some ticks long.
func goes(b *both, begin int) {
	b.t.Helper()
	for i := range 30 {
		now := begin + i
		for channel, x := range b.lines {
			if (i+channel)%3 > 0 {
				b.write(x.From, channel, 100*channel+i, now)
			}
			if (i+channel)%4 == 0 {
				b.read(x.To, channel, now+channel)
			}
		}
		if i%13 == 12 {
			b.clear(i % 3)
		}
		b.look()
	}
}

// spoil changes a list, and what is behind it.
func spoil(l []conf.Channel, c conf.Channel) {
	for i := range l {
		l[i] = c
	}
	grown := append(l, c, c, c)
	for i := range grown {
		grown[i] = c
	}
	all := l[:cap(l)]
	for i := range all {
		all[i] = c
	}
}

// Channels that none of the tests' others is like.
var otherChannels = []conf.Channel{{}, {Queue: true, From: 2, To: 2, Size: 77}, {From: -5, To: -6, Size: -7}, {Queue: true, From: 1, To: 1}}

func TestP2101NewDoesNotHoldOnToItsList(t *testing.T) {
	for n := range len(mixed()) + 1 {
		for _, c := range otherChannels {
			room := append(mixed(), mixed()...)
			was := slices.Clone(room)
			l := room[:n]
			b := newBoth(t, l...)
			goes(b, 0)
			if !slices.Equal(room, was) {
				t.Errorf("New of %d: the list, or what is behind it, is another one now", n)
			}
			spoil(l, c)
			goes(b, 30)
			clear(room)
			goes(b, 60)
			b.lookFar()
			b.drain(100)
			if !slices.Equal(room, make([]conf.Channel, len(room))) {
				t.Errorf("New of %d: the list, or what is behind it, is another one behind calls", n)
			}
			b.stop("behind a change of the list")
		}
	}
}

func TestP2101AListThatGrows(t *testing.T) {
	// What is put behind the list is no channel of theirs.
	room := append(mixed(), queue(1, 1, 4), sample(1, 1, 4))
	l := room[:len(room)-2]
	b := newBoth(t, l...)
	grown := append(l, queue(1, 1, 4))
	for channel := len(l); channel < len(l)+3; channel++ {
		for part := range 3 {
			b.refused(part, channel)
		}
		b.waiting(channel)
	}
	grown[0] = sample(1, 0, 1)
	goes(b, 0)
	b.drain(40)
	b.stop("a list that grows")
}

func TestP2101PortsAreApart(t *testing.T) {
	// Of the same list, too.
	list := mixed()
	var l []*both
	for n := range len(list) + 1 {
		l = append(l, newBoth(t, list...), newBoth(t, list...), newBoth(t, list[:n]...))
	}
	// Calls of one, and all of them are looked at.
	for i, b := range l {
		for channel, x := range b.lines {
			for n := range i % 5 {
				b.write(x.From, channel, 1000*i+n, i)
			}
			if i%2 == 0 {
				b.read(x.To, channel, i)
			}
		}
		if i%4 == 3 {
			b.clear(i % 3)
		}
		for _, other := range l {
			other.look()
		}
		b.stop("apart")
	}
	for _, b := range l {
		b.drain(9)
		b.stop("apart")
	}
}

func TestP2101TheSameCallsTellTheSame(t *testing.T) {
	for seed := range uint64(150) {
		a, b := newDrawing(t, 20000+seed), newDrawing(t, 20000+seed)
		for range 300 {
			a.call()
			// Looks in between change nothing.
			a.look()
			b.call()
		}
		for channel, x := range a.lines {
			for range len(x.held) + 1 {
				value, beside, err := a.p.Read(x.To, channel, a.now)
				if v, n, e := b.p.Read(x.To, channel, a.now); v != value || n != beside || e != err {
					t.Fatalf("the same calls, and %d, %d, %d, and %d, %d, %d of %v", value, beside, err, v, n, e, x.Channel)
				}
			}
		}
		b.stop("the same calls")
	}
}

func TestP2101EachOfManyHasItsOwnPorts(t *testing.T) {
	list := mixed()
	var group sync.WaitGroup
	for seed := range uint64(16) {
		d, b := newDrawing(t, 40000+seed), newBoth(t, list...)
		group.Go(func() {
			for i := range 200 {
				d.call()
				d.look()
				goes(b, 30*i)
			}
			b.drain(0)
		})
	}
	group.Wait()
}

func TestP2101ManyAskOnePorts(t *testing.T) {
	// What tells, and changes nothing, may be asked at the same time; what is refused, too.
	b := filled(t, mixed()...)
	var group sync.WaitGroup
	for range 8 {
		group.Go(func() {
			for range 50 {
				b.look()
				if err := b.p.Write(2, 0, 1, 1); err != api.ErrArg {
					t.Errorf("Write by another one: %d", err)
				}
			}
		})
	}
	group.Wait()
}

func TestP2101OneChannelTwice(t *testing.T) {
	// Channels that are alike are channels by themselves.
	for _, c := range []conf.Channel{queue(0, 1, 2), sample(0, 1, 2)} {
		p := ports.New(slices.Repeat([]conf.Channel{c}, 5)...)
		for channel := range 5 {
			if err := p.Write(0, channel, channel, channel); err != api.OK {
				t.Errorf("Write: %d", err)
			}
			for other := range 5 {
				want := 0
				if other <= channel {
					want = 1
				}
				if n := p.Waiting(other); n != want {
					t.Errorf("%v: Waiting(%d): %d, not %d", c, other, n, want)
				}
			}
		}
		for channel := range 5 {
			if value, _, err := p.Read(1, channel, 9); value != channel || err != api.OK {
				t.Errorf("%v: Read(1, %d, 9): %d, %d", c, channel, value, err)
			}
		}
	}
}

// The tests are of a package of their own, as all that they hold Ports to is told by its calls.
package ports_test

import (
	"math"
	"math/big"
	"testing"

	"parclose/api"
	"parclose/conf"
	"parclose/ports"
)

// mostRoom: so many messages a Queue holds at most.
const mostRoom = 4096

// numbers: some about which an answer may turn, be they parts', channels', ticks, sizes, or values.
var numbers = []int{
	math.MinInt, math.MinInt + 1, -1 << 62, -1 << 32, -4097, -256, -17, -3, -2, -1, 0, 1, 2, 3, 4, 5, 6, 7, 8, 9, 16, 17,
	255, 256, 257, 4095, 4096, 4097, 1 << 16, 1 << 31, 1<<32 - 1, 1 << 32, 1<<32 + 1, 1<<62 - 1, 1 << 62, math.MaxInt - 1, math.MaxInt,
}

func queue(from, to, size int) conf.Channel {
	return conf.Channel{Queue: true, From: from, To: to, Size: size}
}

func sample(from, to, size int) conf.Channel { return conf.Channel{From: from, To: to, Size: size} }

// mixed: channels of both kinds among three parts, more than one to each, and more than one from each.
func mixed() []conf.Channel {
	return []conf.Channel{queue(0, 1, 2), sample(0, 1, 5), queue(1, 0, 1), sample(2, 0, 0), queue(2, 1, 3), sample(1, 2, 9), queue(0, 2, 4), sample(0, 1, 20)}
}

// message: a value, and when it was written.
type message struct{ value, at int }

// line: a channel as the chapter's words tell of it: what it holds, the first one first, and how many it lost.
type line struct {
	conf.Channel
	held []message
	lost int
}

// come: a message comes.
func (x *line) come(m message) {
	switch {
	case !x.Queue:
		x.held = []message{m}
	case len(x.held) < min(x.Size, mostRoom):
		x.held = append(x.held, m)
	default:
		x.lost++
	}
}

// leave: what a Read at now is answered, and done by it.
func (x *line) leave(now int) (int, int, api.Errno) {
	if len(x.held) == 0 {
		return 0, 0, api.ErrEmpty
	}
	m, lost := x.held[0], x.lost
	if !x.Queue {
		return m.value, fresh(m.at, now, x.Size), api.OK
	}
	x.held, x.lost = x.held[1:], 0
	return m.value, lost, api.OK
}

// fresh: 1, if now is at most size behind at, in numbers of any length; else 0.
func fresh(at, now, size int) int {
	behind := new(big.Int).Sub(big.NewInt(int64(now)), big.NewInt(int64(at)))
	if behind.Cmp(big.NewInt(int64(size))) <= 0 {
		return 1
	}
	return 0
}

// both: Ports, and plain lines that they are held against. Each call is made of both.
type both struct {
	t     *testing.T
	p     *ports.Ports
	lines []line
}

func newBoth(t *testing.T, l ...conf.Channel) *both {
	t.Helper()
	b := &both{t: t, p: ports.New(l...)}
	if b.p == nil {
		t.Fatalf("New of %v: nil", l)
	}
	for _, c := range l {
		b.lines = append(b.lines, line{Channel: c})
	}
	return b
}

func (b *both) isChannel(channel int) bool { return 0 <= channel && channel < len(b.lines) }

func (b *both) write(part, channel, value, now int) {
	b.t.Helper()
	want := api.ErrArg
	if b.isChannel(channel) && b.lines[channel].From == part {
		want = api.OK
		b.lines[channel].come(message{value, now})
	}
	if err := b.p.Write(part, channel, value, now); err != want {
		b.t.Errorf("Write(%d, %d, %d, %d): %d, not %d", part, channel, value, now, err, want)
	}
}

func (b *both) read(part, channel, now int) {
	b.t.Helper()
	value, beside, want := 0, 0, api.ErrArg
	if b.isChannel(channel) && b.lines[channel].To == part {
		value, beside, want = b.lines[channel].leave(now)
	}
	if x, n, err := b.p.Read(part, channel, now); x != value || n != beside || err != want {
		b.t.Errorf("Read(%d, %d, %d): %d, %d, %d, not %d, %d, %d", part, channel, now, x, n, err, value, beside, want)
	}
}

func (b *both) clear(part int) {
	b.p.Clear(part)
	for i := range b.lines {
		if b.lines[i].To == part {
			b.lines[i].held, b.lines[i].lost = nil, 0
		}
	}
}

func (b *both) waiting(channel int) {
	b.t.Helper()
	want := 0
	if b.isChannel(channel) {
		want = len(b.lines[channel].held)
	}
	if n := b.p.Waiting(channel); n != want {
		b.t.Errorf("Waiting(%d): %d, not %d", channel, n, want)
	}
}

// look: all that is told and changes nothing, twice, and calls that are refused.
func (b *both) look() {
	b.t.Helper()
	for range 2 {
		for channel := -1; channel <= len(b.lines); channel++ {
			b.waiting(channel)
		}
		for channel, x := range b.lines {
			b.write(x.From+1, channel, 4711, 0)
			b.read(x.To+1, channel, 0)
		}
	}
}

// lookFar: the same, and what is told of all the numbers about which it may turn.
func (b *both) lookFar() {
	b.t.Helper()
	b.look()
	for _, channel := range numbers {
		b.waiting(channel)
	}
}

// drain: each channel is read at now as long as it holds something, and once more. What is not out by a Read is read twice.
func (b *both) drain(now int) {
	b.t.Helper()
	for channel := range b.lines {
		x := &b.lines[channel]
		for range len(x.held) + 1 {
			b.read(x.To, channel, now)
			b.waiting(channel)
		}
	}
}

// stop ends a test that went wrong, so that it tells no more than what went wrong first.
func (b *both) stop(what string) {
	b.t.Helper()
	if b.t.Failed() {
		var l []conf.Channel
		for _, x := range b.lines {
			l = append(l, x.Channel)
		}
		b.t.Fatalf("%s: of %v", what, l)
	}
}

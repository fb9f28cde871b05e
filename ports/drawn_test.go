package ports_test

import (
	"math/rand/v2"
	"testing"

	"parclose/conf"
)

// drawing: what a row of calls is drawn by.
type drawing struct {
	*both
	r *rand.Rand
	// now: about which ticks are drawn.
	now int
	// share: so many of ten writes and reads are writes.
	share int
	// written: so many values were drawn.
	written int
}

// drawnChannel: among few parts most often, of a small size most often.
func drawnChannel(r *rand.Rand) conf.Channel {
	size := 1 + r.IntN(5)
	switch r.IntN(20) {
	case 0:
		size = numbers[r.IntN(len(numbers))]
	case 1, 2:
		size = r.IntN(60) - 2
	}
	c := conf.Channel{Queue: r.IntN(5) < 3, From: r.IntN(4), To: r.IntN(4), Size: size}
	if r.IntN(30) == 0 {
		c.From = numbers[r.IntN(len(numbers))]
	}
	if r.IntN(30) == 0 {
		c.To = numbers[r.IntN(len(numbers))]
	}
	return c
}

func newDrawing(t *testing.T, seed uint64) *drawing {
	r := rand.New(rand.NewPCG(seed, 21))
	var l []conf.Channel
	for range r.IntN(9) {
		l = append(l, drawnChannel(r))
	}
	now := []int{0, r.IntN(1 << 62), 1<<62 - 40}[r.IntN(3)]
	return &drawing{newBoth(t, l...), r, now, 5, 0}
}

// channel: most often one there is.
func (d *drawing) channel() int {
	switch d.r.IntN(30) {
	case 0:
		return numbers[d.r.IntN(len(numbers))]
	case 1:
		return d.r.IntN(len(d.lines)+2) - 1
	}
	return d.r.IntN(max(len(d.lines), 1))
}

// part: most often this end of a channel.
func (d *drawing) part(channel int, end func(line) int) int {
	if d.r.IntN(12) == 0 || !d.isChannel(channel) {
		return d.r.IntN(6) - 1
	}
	return end(d.lines[channel])
}

// tick: about now, which goes on; or just about where a message is old.
func (d *drawing) tick(channel int) int {
	d.now += d.r.IntN(3)
	if d.isChannel(channel) && d.r.IntN(3) == 0 {
		if x := d.lines[channel]; len(x.held) > 0 {
			return x.held[0].at + x.Size + d.r.IntN(3) - 1
		}
	}
	switch d.r.IntN(40) {
	case 0:
		return numbers[d.r.IntN(len(numbers))]
	case 1, 2:
		return d.now - d.r.IntN(20)
	}
	return d.now
}

func (d *drawing) drawnWrite() {
	d.written++
	channel, value := d.channel(), d.written
	if d.r.IntN(10) == 0 {
		value = numbers[d.r.IntN(len(numbers))]
	}
	d.write(d.part(channel, func(x line) int { return x.From }), channel, value, d.tick(-1))
}

func (d *drawing) drawnRead() {
	channel := d.channel()
	d.read(d.part(channel, func(x line) int { return x.To }), channel, d.tick(channel))
}

// call: any one, Clear now and then. What there are more of, writes or reads, changes from time to time, so that Queues come to be full, and empty.
func (d *drawing) call() {
	if d.r.IntN(40) == 0 {
		d.share = []int{1, 3, 5, 7, 9}[d.r.IntN(5)]
	}
	switch {
	case d.r.IntN(60) == 0:
		d.clear(d.part(d.channel(), func(x line) int { return x.To }))
	case d.r.IntN(15) == 0:
		d.waiting(d.channel())
	case d.r.IntN(10) < d.share:
		d.drawnWrite()
	default:
		d.drawnRead()
	}
}

func TestP2102DrawnRowsOfCalls(t *testing.T) {
	// How often was a Queue full, one empty, one that had lost some; and a sample held, and none?
	var full, empty, lossy, held, none int
	for seed := range uint64(1500) {
		d := newDrawing(t, seed)
		for range 200 {
			d.call()
			d.look()
			d.stop("drawn calls")
			for _, x := range d.lines {
				switch {
				case !x.Queue && len(x.held) > 0:
					held++
				case !x.Queue:
					none++
				case len(x.held) == 0:
					empty++
				case len(x.held) == x.Size:
					full++
				}
				if len(x.held) > 0 && x.lost > 0 {
					lossy++
				}
			}
		}
		d.lookFar()
		d.drain(d.now)
		d.stop("drawn calls")
	}
	for what, n := range map[string]int{"full": full, "empty": empty, "lossy": lossy, "held": held, "none": none} {
		if n < 20000 {
			t.Errorf("just %d times a channel was %s", n, what)
		}
	}
}

// calls: so many, with a look at all now and then, and a Read of all at the end.
func (d *drawing) calls(count, each int) {
	d.t.Helper()
	for i := range count {
		d.call()
		if i%each == 0 {
			d.look()
			d.stop("drawn calls")
		}
	}
	d.lookFar()
	d.drain(d.now)
	d.stop("drawn calls")
}

func TestP2102LongDrawnRowsOfCalls(t *testing.T) {
	for seed := range uint64(20) {
		newDrawing(t, 5000+seed).calls(20000, 100)
	}
}

func TestP2102DrawnCallsOfManyChannels(t *testing.T) {
	for seed := range uint64(20) {
		d := newDrawing(t, 6000+seed)
		var l []conf.Channel
		for range 100 + d.r.IntN(200) {
			l = append(l, drawnChannel(d.r))
		}
		d.both = newBoth(t, l...)
		d.calls(10000, 500)
	}
}

// byNumber: what a short row of calls is made of.
func (b *both) byNumber(call, now int) {
	switch call {
	case 0, 1:
		b.write(call, call, 10*call+now, now)
	case 2:
		b.write(0, 0, -now, now)
		b.write(1, 1, -now, now)
	case 3:
		b.read(1, 0, now)
	case 4:
		b.read(0, 1, now)
	case 5:
		b.read(0, 0, now)
		b.read(1, 1, now)
	default:
		b.clear(call - 6)
	}
}

func TestP2102AllShortRowsOfCalls(t *testing.T) {
	const calls, steps = 8, 5
	rows := 1
	for range steps {
		rows *= calls
	}
	// The first channel leads from 0 to 1, the second one back.
	for _, l := range [][]conf.Channel{
		{queue(0, 1, 1), sample(1, 0, 1)}, {queue(0, 1, 2), queue(1, 0, 3)}, {sample(0, 1, 2), queue(1, 0, 1)}, {sample(0, 1, 0), sample(1, 0, 3)}, {queue(0, 1, 0), sample(1, 0, -1)},
	} {
		for row := range rows {
			b := newBoth(t, l...)
			for now := range steps {
				b.byNumber(row%calls, now)
				row /= calls
			}
			b.look()
			b.drain(steps)
			b.stop("a short row")
		}
	}
}

// The tests are of a package of their own, as all that they hold a Kernel to is told by its calls.
package kernel_test

import (
	"slices"

	"parclose/api"
	"parclose/conf"
	"parclose/gsched"
	"parclose/journal"
	"parclose/kernel"
	"parclose/part"
	"parclose/tasks"
)

// Of the document's words.
const (
	maxParts   = 6
	maxTasks   = 6
	maxServers = 3
	maxQueue   = 8
	maxOps     = 64
	maxItems   = 64
	maxImage   = 1 << 14
	maxWork    = 1 << 20
	maxStory   = 1 << 16
	maxTick    = 1 << 62

	note, stop, again    = 0, 1, 2
	missed, overrun, odd = 0, 1, 2

	own, given, lost, margin, gap = 0, 1, 2, 3, 4
)

// message: what was written to a channel, and when.
type message struct{ value, at int }

// line: a channel, what waits in it, and how many messages found no room.
type line struct {
	conf.Channel
	row  []message
	lost int
}

// plain: what a Kernel is held against: partitions and channels, and all choices since it began, one by one.
type plain struct {
	c       conf.Config
	tick    int
	parts   []*plainPart
	lines   []*line
	charged []gsched.Choice
}

func newPlain(c conf.Config, start int) *plain {
	b := &plain{c: conf.Clone(c), tick: start}
	for _, a := range b.c.Parts {
		b.parts = append(b.parts, newPlainPart(a, start))
	}
	for _, x := range b.c.Chans {
		b.lines = append(b.lines, &line{Channel: x})
	}
	return b
}

// is: is there such a partition?
func (b *plain) is(p int) bool { return 0 <= p && p < len(b.parts) }

func (b *plain) log(p, kind, x, y int) {
	b.parts[p].log = append(b.parts[p].log, journal.Entry{Tick: b.tick, Kind: kind, A: x, B: y})
}

// halt: and up again, or not.
func (b *plain) halt(p int, up bool) {
	b.parts[p].empty()
	b.parts[p].up = up
	for _, x := range b.lines {
		if x.To == p {
			x.row, x.lost = nil, 0
		}
	}
}

func (b *plain) fault(p, kind int) {
	a := b.parts[p]
	a.faults = append(a.faults, kind)
	act := a.a.Acts[kind]
	b.log(p, journal.Fault, kind, int(act))
	if act != note {
		b.halt(p, act == again)
	}
}

// heed: what came about, each by the kind of an entry.
func (b *plain) heed(p int, l []journal.Entry) {
	for _, e := range l {
		b.log(p, e.Kind, e.A, e.B)
		if e.Kind == journal.Missed {
			b.fault(p, missed)
		}
		if e.Kind == journal.Over {
			b.fault(p, overrun)
		}
	}
}

func (b *plain) take(x kernel.Item) api.Errno {
	if x.Kind == 4 {
		for p := range b.parts {
			b.log(p, journal.Mark, x.A, 0)
		}
		return api.OK
	}
	if x.Kind < 0 || x.Kind > 4 || !b.is(x.Part) {
		return api.ErrArg
	}
	a := b.parts[x.Part]
	switch x.Kind {
	case 0:
		err := a.arrive(b.tick, x.A, x.B, x.Ops)
		if err == api.OK {
			b.log(x.Part, journal.Accept, x.A, x.B)
		} else {
			b.log(x.Part, journal.Refuse, x.A, int(err))
		}
		return err
	case 1:
		err := a.request(x.A, x.B)
		b.log(x.Part, journal.Ask, x.A, int(err))
		return err
	}
	b.halt(x.Part, x.Kind == 3)
	b.log(x.Part, journal.Order, x.Kind, 0)
	return api.OK
}

// window: the one that the tick is in, and how far it is in there; false, if it is in none.
func (b *plain) window() (conf.Window, int, bool) {
	at := b.tick % b.c.Frame
	for _, w := range b.c.Windows {
		if w.At <= at && at < w.At+w.Len {
			return w, at - w.At, true
		}
	}
	return conf.Window{}, 0, false
}

func (b *plain) choice() gsched.Choice {
	w, in, ok := b.window()
	if !ok {
		return gsched.Choice{Kind: gap, Owner: -1, Runner: -1}
	}
	if in < b.c.Margin {
		return gsched.Choice{Kind: margin, Owner: w.Part, Runner: -1}
	}
	for i, p := range append([]int{w.Part}, b.c.Parts[w.Part].Donees...) {
		if _, ready := b.parts[p].pick(); ready {
			return gsched.Choice{Kind: min(i, given), Owner: w.Part, Runner: p}
		}
	}
	return gsched.Choice{Kind: lost, Owner: w.Part, Runner: -1}
}

func (b *plain) step(l ...kernel.Item) (kernel.Report, api.Errno) {
	if b.tick == maxTick {
		return kernel.Report{}, api.ErrHorizon
	}
	if len(l) > maxItems {
		return kernel.Report{}, api.ErrArg
	}
	told := kernel.Report{Tick: b.tick}
	for _, x := range l {
		told.Results = append(told.Results, b.take(x))
	}
	for p, a := range b.parts {
		b.heed(p, a.begin(b.tick))
	}
	told.Choice = b.choice()
	b.charged = append(b.charged, told.Choice)
	if p := told.Choice.Runner; p >= 0 {
		told.What = b.run(p, told.Choice.Owner)
	}
	b.tick++
	return told, api.OK
}

// run: a tick of p's, which was owner's.
func (b *plain) run(p, owner int) part.What {
	a := b.parts[p]
	high := a.high
	what, _ := a.pick()
	if what.Server {
		b.log(p, journal.Ran, 100+what.N, owner)
		b.heed(p, a.runServer(what.N))
		return what
	}
	b.log(p, journal.Ran, what.N, owner)
	op, l := a.runJob(what.N)
	b.heed(p, l)
	b.do(p, op, high)
	return what
}

func (b *plain) do(p int, op tasks.Op, high bool) {
	switch op.Kind {
	case 0:
	case 1:
		b.log(p, journal.Op, 1, b.tick)
	case 2:
		b.log(p, journal.Op, 2, int(b.write(p, op.A, op.B)))
	case 3:
		b.read(p, op.A)
	case 4:
		b.log(p, journal.Op, 4, int(b.parts[p].request(op.A, op.B)))
	case 5:
		is := 0
		if high {
			is = 1
		}
		b.log(p, journal.Op, 5, is)
	default:
		b.fault(p, odd)
	}
}

func (b *plain) write(p, channel, value int) api.Errno {
	if channel < 0 || channel >= len(b.lines) || b.lines[channel].From != p {
		return api.ErrArg
	}
	x := b.lines[channel]
	switch {
	case !x.Queue:
		x.row = []message{{value, b.tick}}
	case len(x.row) < x.Size:
		x.row = append(x.row, message{value, b.tick})
	default:
		x.lost++
	}
	return api.OK
}

func (b *plain) read(p, channel int) {
	if channel < 0 || channel >= len(b.lines) || b.lines[channel].To != p {
		b.log(p, journal.Op, 31, 1)
		return
	}
	x := b.lines[channel]
	if len(x.row) == 0 {
		b.log(p, journal.Op, 31, 6)
		return
	}
	beside := 0
	if x.Queue {
		beside = x.lost
	} else if b.tick-x.row[0].at <= x.Size {
		beside = 1
	}
	b.log(p, journal.Op, 3, x.row[0].value)
	b.log(p, journal.Op, 30, beside)
	if x.Queue {
		x.row, x.lost = slices.Clone(x.row[1:]), 0
	}
}

// spent: how many ticks of a kind were p's.
func (b *plain) spent(kind, p int) int {
	n := 0
	for _, x := range b.charged {
		if b.is(p) && x.Kind == kind && x.Owner == p {
			n++
		}
	}
	return n
}

// got: how many were given to p.
func (b *plain) got(p int) int {
	n := 0
	for _, x := range b.charged {
		if b.is(p) && x.Kind == given && x.Runner == p {
			n++
		}
	}
	return n
}

// told: what p saw, as long as there was room.
func (b *plain) told(p int) []journal.Entry {
	if !b.is(p) {
		return nil
	}
	return b.parts[p].log[:min(len(b.parts[p].log), maxStory)]
}

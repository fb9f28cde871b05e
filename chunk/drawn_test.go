package chunk_test

import (
	"math/rand/v2"
	"slices"
	"testing"

	"parclose/conf"
	"parclose/demand"
)

// drawing: what a row of calls is drawn by.
type drawing struct {
	*both
	r *rand.Rand
	// now: about which ticks are drawn.
	now int
	// rest: of so many ticks it is not busy at one.
	rest int
}

// drawnServer: one that is right, of a short period and few ticks most often.
func drawnServer(r *rand.Rand) conf.Server {
	most := 25
	if r.IntN(8) == 0 {
		most = maxPeriod
	}
	period := 1 + r.IntN(most)
	ticks := 1 + r.IntN(min(period, 40))
	if r.IntN(6) == 0 {
		ticks = min(period, 60)
	}
	return conf.Server{Refill: r.IntN(4) == 0, C: ticks, T: period}
}

// newDrawing: at 0, somewhere, or near MaxTick.
func newDrawing(t *testing.T, seed uint64) *drawing {
	r := rand.New(rand.NewPCG(seed, 17))
	begin := []int{0, r.IntN(maxTick), maxTick - 1000}[r.IntN(3)]
	return &drawing{newBoth(t, drawnServer(r)), r, begin, 2 + r.IntN(4)}
}

func (d *drawing) busy() bool { return d.r.IntN(d.rest) != 0 }

// later: a tick from now on, most often one of the next; or about when something is back.
func (d *drawing) later() int {
	next := d.now + d.r.IntN(3)
	if d.r.IntN(12) == 0 {
		next += d.r.IntN(2 * d.b.server.T)
	}
	if l := d.c.Backs(); len(l) > 0 && d.r.IntN(8) == 0 {
		next = l[d.r.IntN(len(l))].At + d.r.IntN(3) - 1
	}
	return max(d.now, next)
}

// any: the same; or at times a tick ahead of now, or one that is about no other.
func (d *drawing) any() int {
	switch d.r.IntN(60) {
	case 0:
		return d.now - d.r.IntN(3*d.b.server.T)
	case 1:
		return d.now - 1
	case 2:
		return []int{-maxTick, -1000, -1, 0, 1, 500, 1 << 32, maxTick - 1, maxTick, maxTick + 1000}[d.r.IntN(10)]
	}
	return d.later()
}

// call: one that is not Go, Use most often.
func (d *drawing) call() {
	switch d.r.IntN(40) {
	case 0, 1:
		d.done()
	case 2:
		d.halt()
	case 3, 4, 5, 6, 7:
		d.resume()
	case 8:
		d.use(d.b.server.C)
	default:
		d.use(1 + d.r.IntN(2))
	}
}

// step: a Go, or another call.
func (d *drawing) step() {
	switch d.r.IntN(100) {
	case 0:
		d.reset()
	case 1, 2, 3:
		d.goTo(d.any(), d.busy())
	default:
		if d.r.IntN(5) < 2 {
			d.call()
			return
		}
		d.now = d.any()
		d.goTo(d.now, d.busy())
	}
}

func TestP1702DrawnRowsOfCalls(t *testing.T) {
	for seed := range uint64(600) {
		d := newDrawing(t, seed)
		for range 200 {
			d.step()
			d.look()
			d.stop("drawn calls")
		}
	}
}

// What a row of calls is made of, each by a number.
func (b *both) byNumber(call, now int) {
	switch call {
	case 0:
		b.goTo(now, true)
	case 1:
		b.goTo(now, false)
	case 2:
		b.use(1)
	case 3:
		b.done()
	case 4:
		b.halt()
	case 5:
		b.resume()
	default:
		b.reset()
	}
}

func TestP1702AllShortRowsOfCalls(t *testing.T) {
	const calls, long = 7, 6
	rows := 1
	for range long {
		rows *= calls
	}
	for _, s := range []conf.Server{server(1, 1), server(1, 2), server(2, 2), server(2, 3)} {
		for row := range rows {
			b := newBoth(t, s)
			// Each at a tick of its own.
			for now := range long {
				b.byNumber(row%calls, now)
				row /= calls
			}
			b.look()
			b.stop("a short row")
		}
	}
}

func TestP1704DrawnRowsOfCalls(t *testing.T) {
	// Behind how many calls were ticks left, used and to be back, all at once?
	full := 0
	for seed := range uint64(600) {
		d := newDrawing(t, 2000+seed)
		for range 300 {
			d.step()
			inAll(t, d.c, d.b.server.C)
			d.stop("C in all")
			if l := d.c.Live(); len(l) > 0 && l[0].Used > 0 && len(d.c.Backs()) > 0 {
				full++
			}
		}
	}
	if full < 1000 {
		t.Errorf("just behind %d calls they were", full)
	}
}

// usage: a tick that was used, of a chunk of this tick, which was due then.
type usage struct{ at, due int }

// neverMore holds what was used to P1705, by counting it.
func neverMore(t *testing.T, s conf.Server, l []usage) {
	t.Helper()
	slices.SortFunc(l, func(a, b usage) int { return a.due - b.due })
	for _, from := range l {
		n := 0
		for i, u := range l {
			if u.at < from.at {
				continue
			}
			n++
			// All of those that are due by then are counted.
			last := i == len(l)-1 || l[i+1].due > u.due
			if most := demand.Serve(s, u.due-from.at); last && n > most {
				t.Fatalf("of %v: %d used from %d on, due until %d, more than %d", s, n, from.at, u.due, most)
			}
		}
	}
}

// usages: drawn calls at rising ticks, without a Reset, and what was used, by what the Budget tells alone.
func (d *drawing) usages(calls int) []usage {
	var l []usage
	for range calls {
		d.now = d.later()
		d.c.Go(d.now, d.busy())
		if d.r.IntN(3) == 0 {
			d.c.Go(d.now, d.busy())
		}
		for range d.r.IntN(4) {
			switch d.r.IntN(20) {
			case 0:
				d.c.Done()
			case 1:
				d.c.Stop()
			case 2, 3, 4:
				d.c.Resume()
			}
			live := d.c.Live()
			due, ok := d.c.Due()
			if d.c.Use() {
				if len(live) == 0 || !ok {
					d.t.Fatal("Use of none: true")
				}
				l = append(l, usage{live[0].At, due})
			}
		}
	}
	return l
}

func TestP1705DrawnRowsOfCalls(t *testing.T) {
	used := 0
	for seed := range uint64(400) {
		d := newDrawing(t, 5000+seed)
		// What is demanded of a server that is filled again is another number.
		s := server(d.b.server.C, d.b.server.T)
		l := d.usages(250)
		used += len(l)
		neverMore(t, s, l)
	}
	if used < 10000 {
		t.Errorf("just %d ticks were used", used)
	}
}

func TestP1705AsManyAsThereMayBe(t *testing.T) {
	// Busy at each tick, and used at each: C in each T, and none more.
	for _, s := range servers() {
		d := newDrawing(t, 1)
		d.both = newBoth(t, s)
		var l []usage
		periods := min(20, 3000/s.C)
		for now := range periods * s.T {
			d.c.Go(now, true)
			for {
				due, _ := d.c.Due()
				if !d.c.Use() {
					break
				}
				l = append(l, usage{due - s.T, due})
			}
		}
		if len(l) != periods*s.C {
			t.Errorf("of %v: %d used in %d periods", s, len(l), periods)
		}
		neverMore(t, s, l)
		// One tick at each: used later than when its chunk began.
		d.both = newBoth(t, s)
		l = nil
		for now := range 2 * maxPeriod {
			d.c.Go(now, true)
			live := d.c.Live()
			if d.c.Use() {
				l = append(l, usage{live[0].At, live[0].At + s.T})
			}
		}
		neverMore(t, s, l)
	}
}

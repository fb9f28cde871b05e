package refill_test

import (
	"math/rand/v2"
	"testing"

	"parclose/conf"
	"parclose/demand"
)

// drawing: what a row of calls is drawn by.
type drawing struct {
	*both
	r *rand.Rand
	// now: about which ticks are drawn.
	now int
	// often: at so many of four ticks it is busy.
	often int
}

// drawnServer: one that is right, of a short period and few ticks most often.
func drawnServer(r *rand.Rand) conf.Server {
	most := 25
	if r.IntN(8) == 0 {
		most = maxPeriod
	}
	period := 1 + r.IntN(most)
	ticks := 1 + r.IntN(min(period, 40))
	if r.IntN(6) == 0 {
		ticks = min(period, 60)
	}
	return server(ticks, period)
}

// newDrawing: at 0, somewhere, or near MaxTick; about start, or far behind it.
func newDrawing(t *testing.T, seed uint64) *drawing {
	r := rand.New(rand.NewPCG(seed, 18))
	s := drawnServer(r)
	begin := []int{0, r.IntN(maxTick), maxTick - 1000}[r.IntN(3)]
	start := []int{begin, begin / 3, begin + r.IntN(3*s.T)}[r.IntN(3)]
	return &drawing{newBoth(t, s, min(start, maxTick)), r, begin, 1 + r.IntN(4)}
}

func (d *drawing) busy() bool { return d.r.IntN(4) < d.often }

// later: a tick from now on, most often one of the next; or about when a period begins.
func (d *drawing) later() int {
	period := d.b.server.T
	next := d.now + d.r.IntN(3)
	if d.r.IntN(12) == 0 {
		next += d.r.IntN(2 * period)
	}
	if d.now >= d.b.start && d.r.IntN(8) == 0 {
		next = d.now - (d.now-d.b.start)%period + period*(1+d.r.IntN(2)) + d.r.IntN(3) - 1
	}
	return max(d.now, next)
}

// any: the same; or a tick ahead of now, one that is about no other, or one about start.
func (d *drawing) any() int {
	switch d.r.IntN(6) {
	case 0:
		return d.now - d.r.IntN(3*d.b.server.T)
	case 1:
		return d.now - 1
	case 2:
		return []int{-maxTick, -1000, -1, 0, 1, 500, 1 << 32, maxTick - 1, maxTick, maxTick + 1000}[d.r.IntN(10)]
	case 3:
		return d.b.start + d.r.IntN(5) - 2
	}
	return d.later()
}

// call: one that is not Go, Use most often.
func (d *drawing) call() {
	switch d.r.IntN(40) {
	case 0, 1:
		d.done()
	case 2:
		d.halt()
	case 3, 4, 5, 6, 7:
		d.resume()
	case 8:
		d.use(d.b.server.C)
	default:
		d.use(1 + d.r.IntN(2))
	}
}

// step: a Go, or another call.
func (d *drawing) step() {
	switch d.r.IntN(100) {
	case 0:
		d.reset()
	case 1, 2, 3, 4, 5:
		d.goTo(d.any(), d.busy())
	default:
		if d.r.IntN(5) < 2 {
			d.call()
			return
		}
		d.now = d.later()
		d.goTo(d.now, d.busy())
	}
}

func TestP1802DrawnRowsOfCalls(t *testing.T) {
	// Behind how many calls were ticks free, live in more than one chunk, and gone, all at once?
	full := 0
	for seed := range uint64(2000) {
		d := newDrawing(t, seed)
		for range 200 {
			d.step()
			d.look()
			d.stop("drawn calls")
			if d.b.count(isFree) > 0 && len(d.c.Live()) > 1 && d.b.count(isGone) > 0 {
				full++
			}
		}
	}
	if full < 500 {
		t.Errorf("just behind %d calls they were", full)
	}
}

// What a row of calls is made of, each by a number.
func (b *both) byNumber(call, now int) {
	switch call {
	case 0:
		b.goTo(now, true)
	case 1:
		b.goTo(now, false)
	case 2:
		b.use(1)
	case 3:
		b.done()
	case 4:
		b.halt()
	case 5:
		b.resume()
	default:
		b.reset()
	}
}

func TestP1802AllShortRowsOfCalls(t *testing.T) {
	const calls, long = 7, 6
	rows := 1
	for range long {
		rows *= calls
	}
	for _, s := range []conf.Server{server(1, 1), server(1, 2), server(2, 2), server(2, 3)} {
		for start := range 3 {
			for row := range rows {
				b := newBoth(t, s, start)
				// Each at a tick of its own.
				for now := range long {
					b.byNumber(row%calls, now)
					row /= calls
				}
				b.look()
				b.stop("a short row")
			}
		}
	}
}

// usage: so many ticks that were used of a chunk of this tick, which was due then.
type usage struct{ at, due, ticks int }

// neverMore holds what was used to P1804, by counting it.
func neverMore(t *testing.T, s conf.Server, l []usage) {
	t.Helper()
	for _, from := range l {
		for _, until := range l {
			n := 0
			for _, u := range l {
				if u.at >= from.at && u.due <= until.due {
					n += u.ticks
				}
			}
			if most := demand.Serve(s, until.due-from.at); n > most {
				t.Fatalf("of %v: %d used from %d on, due until %d, more than %d", s, n, from.at, until.due, most)
			}
		}
	}
}

// used counts a tick that was used, by what a Budget tells alone.
func (d *drawing) used(l []usage) []usage {
	live := d.c.Live()
	due, ok := d.c.Due()
	if !d.c.Use() {
		return l
	}
	if len(live) == 0 || !ok || due != live[0].At+d.b.server.T {
		d.t.Fatalf("Use: true; live: %v, due: %d, %v", live, due, ok)
	}
	if at := len(l) - 1; at >= 0 && l[at].at == live[0].At {
		l[at].ticks++
		return l
	}
	return append(l, usage{live[0].At, due, 1})
}

// usages: drawn calls, a Go at each tick, without a Reset.
func (d *drawing) usages(ticks int) []usage {
	var l []usage
	for range ticks {
		d.c.Go(d.now, d.busy())
		for d.r.IntN(3) == 0 {
			d.c.Go(d.now, d.busy())
		}
		for range d.r.IntN(4) {
			switch d.r.IntN(20) {
			case 0:
				d.c.Done()
			case 1:
				d.c.Stop()
			case 2, 3, 4:
				d.c.Resume()
			}
			for range 1 + d.r.IntN(2) {
				l = d.used(l)
			}
		}
		if d.r.IntN(10) == 0 {
			d.c.Go(d.now, d.busy())
		}
		d.now++
	}
	return l
}

func TestP1804DrawnRowsOfCalls(t *testing.T) {
	used := 0
	for seed := range uint64(1500) {
		d := newDrawing(t, 5000+seed)
		l := d.usages(250)
		for _, u := range l {
			used += u.ticks
		}
		neverMore(t, d.b.server, l)
	}
	if used < 10000 {
		t.Errorf("just %d ticks were used", used)
	}
}

func TestP1804AsManyAsThereMayBe(t *testing.T) {
	// Busy at each tick, and used at each as often as it goes: C in each period, and none more.
	for _, s := range servers() {
		for _, start := range starts() {
			d := newDrawing(t, 1)
			d.both = newBoth(t, s, start)
			var l []usage
			periods := min(6, 4000/s.C)
			sum := 0
			for i := range periods * s.T {
				d.c.Go(start+i, true)
				for len(d.c.Live()) > 0 {
					l = d.used(l)
					sum++
				}
			}
			if sum != periods*s.C {
				t.Errorf("of %v: %d used in %d periods", s, sum, periods)
			}
			neverMore(t, s, l)
		}
	}
}

// So many are demanded: at the end of a period, and at once at the next one's beginning.
func TestP1804AsManyAsAreDemanded(t *testing.T) {
	for _, s := range servers() {
		for _, start := range starts() {
			d := newDrawing(t, 1)
			d.both = newBoth(t, s, start)
			var l []usage
			for i := range 2*s.T + 1 {
				d.c.Go(start+i, i >= s.T-1)
				for len(d.c.Live()) > 0 {
					l = d.used(l)
				}
			}
			sum := 0
			for _, u := range l {
				sum += u.ticks
			}
			// From the first chunk on, until the last one is due.
			if most := demand.Serve(s, l[len(l)-1].due-l[0].at); sum != 3*s.C || sum != most {
				t.Errorf("of %v: %d used, %d demanded", s, sum, most)
			}
			neverMore(t, s, l)
		}
	}
}

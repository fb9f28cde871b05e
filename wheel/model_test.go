// The tests are of a package of their own, as all that they hold a wheel to is told by its calls.
package wheel_test

import (
	"math"
	"slices"
	"testing"

	"parclose/api"
	"parclose/wheel"
)

// numbers: some about which an answer may turn.
var numbers = []int{
	math.MinInt, math.MinInt + 1, -1 << 62, -1 << 32, -257, -256, -255, -16, -2, -1, 0, 1, 2, 15, 16, 17, 127, 128, 254, 255,
	256, 257, 511, 512, 1 << 16, 1 << 31, 1 << 32, 1<<32 + 1, 1 << 62, math.MaxInt - 1, math.MaxInt,
}

// ticks: some about which an answer may turn, wherever the wheel is.
var ticks = []int{
	math.MinInt, math.MinInt + 1, -1 << 62, -1 << 32, -257, -17, -16, -2, -1, 0, 1, 2, 15, 16, 17, 255, 256, 257, 1 << 16, 1 << 31, 1 << 32,
	1<<61 - 1, 1 << 61, 1<<62 - 2, 1<<62 - 1, 1 << 62, 1<<62 + 1, 1<<62 + 2, math.MaxInt - 1, math.MaxInt,
}

// timer: one that is set, and to which tick.
type timer struct{ id, tick int }

// plain: what a wheel is held against: where it is, and those that are set, by ticks, then by numbers.
type plain struct {
	now  int
	list []timer
}

func isNumber(id int) bool { return 0 <= id && id < api.MaxTimers }

// at: where in the list a number is; below 0, if it is not set.
func (p *plain) at(id int) int {
	return slices.IndexFunc(p.list, func(x timer) bool { return x.id == id })
}

func (p *plain) set(id, tick int) api.Errno {
	switch {
	case !isNumber(id):
		return api.ErrArg
	case tick <= p.now || tick > api.MaxTick:
		return api.ErrRange
	}
	p.cancel(id)
	at := 0
	for at < len(p.list) && (p.list[at].tick < tick || p.list[at].tick == tick && p.list[at].id < id) {
		at++
	}
	p.list = slices.Insert(p.list, at, timer{id, tick})
	return api.OK
}

func (p *plain) cancel(id int) bool {
	at := p.at(id)
	if at < 0 {
		return false
	}
	p.list = slices.Delete(p.list, at, at+1)
	return true
}

func (p *plain) when(id int) (int, bool) {
	at := p.at(id)
	if at < 0 {
		return 0, false
	}
	return p.list[at].tick, true
}

func (p *plain) step() []int {
	if p.now == api.MaxTick {
		return nil
	}
	p.now++
	var come []int
	for len(p.list) > 0 && p.list[0].tick == p.now {
		come = append(come, p.list[0].id)
		p.list = p.list[1:]
	}
	return come
}

// both: a wheel, and what it is held against. Each call is made of both.
type both struct {
	t *testing.T
	w *wheel.Wheel
	p *plain
}

// newBoth: at a tick at which a wheel may be.
func newBoth(t *testing.T, start int) *both { return &both{t, wheel.New(start), &plain{now: start}} }

// of: the same, with these set.
func of(t *testing.T, start int, l ...timer) *both {
	b := newBoth(t, start)
	for _, x := range l {
		b.set(x.id, x.tick)
	}
	return b
}

func (b *both) set(id, tick int) {
	if err, want := b.w.Set(id, tick), b.p.set(id, tick); err != want {
		b.t.Errorf("Set(%d, %d) at %d: %d, not %d", id, tick, b.p.now, err, want)
	}
}

func (b *both) cancel(id int) {
	if was, want := b.w.Cancel(id), b.p.cancel(id); was != want {
		b.t.Errorf("Cancel(%d) at %d: %v, not %v", id, b.p.now, was, want)
	}
}

func (b *both) when(id int) {
	tick, ok := b.w.When(id)
	if want, set := b.p.when(id); tick != want || ok != set {
		b.t.Errorf("When(%d) at %d: %d, %v, not %d, %v", id, b.p.now, tick, ok, want, set)
	}
}

// step: Go, and where the wheel is then.
func (b *both) step() {
	come, want := b.w.Go(), b.p.step()
	if !slices.Equal(come, want) {
		b.t.Errorf("Go to %d: %v, not %v", b.p.now, come, want)
	}
	b.place()
}

// place: Now and Len.
func (b *both) place() {
	if now := b.w.Now(); now != b.p.now {
		b.t.Errorf("Now: %d, not %d", now, b.p.now)
	}
	if n := b.w.Len(); n != len(b.p.list) {
		b.t.Errorf("Len at %d: %d, not %d", b.p.now, n, len(b.p.list))
	}
}

// look: all that a wheel tells without going on, twice, as that changes nothing.
func (b *both) look() {
	var ticks [api.MaxTimers]int
	for _, x := range b.p.list {
		ticks[x.id] = x.tick
	}
	for range 2 {
		b.place()
		for id, want := range ticks {
			if tick, ok := b.w.When(id); tick != want || ok != (want != 0) {
				b.t.Errorf("When(%d) at %d: %d, %v, not %d", id, b.p.now, tick, ok, want)
			}
		}
	}
}

// walk: so many steps, with a look at all now and then.
func (b *both) walk(steps int) {
	b.t.Helper()
	for i := range steps {
		b.step()
		if i%61 == 0 {
			b.look()
		}
		if b.t.Failed() {
			b.t.Fatalf("behind step %d to %d", i, b.p.now)
		}
	}
	b.look()
}

// ends: ticks ahead of which, and behind which, a wheel at now may need another level: where a number of digits ends, and where so many ticks from now on end; and each one's next ones.
func ends(now int) []int {
	var l []int
	add := func(tick int) {
		for by := -2; by <= 2; by++ {
			l = append(l, tick+by)
		}
	}
	for bits := 4; bits <= 60; bits += 4 {
		add(now | (1<<bits - 1))
		add(now + 1<<bits)
	}
	add(api.MaxTick)
	return l
}

// starts: ticks at which a wheel may be, of every kind: from 0 on, in the midst, about each level's edges, and up to the last one.
func starts() []int {
	l := []int{0, 1, 7, 100, 1000003, 1<<40 + 12345, 1<<61 + 98765, 0x123456789abcdef}
	for bits := 4; bits <= 60; bits += 4 {
		for _, times := range []int{1, 3, 4} {
			edge := times << bits
			l = append(l, edge-300, edge-17, edge-2, edge-1, edge, edge+1)
		}
	}
	l = append(l, api.MaxTick-5000, api.MaxTick-257, api.MaxTick-16, api.MaxTick-2, api.MaxTick-1, api.MaxTick)
	l = slices.DeleteFunc(l, func(tick int) bool { return tick < 0 || tick > api.MaxTick })
	slices.Sort(l)
	return slices.Compact(l)
}

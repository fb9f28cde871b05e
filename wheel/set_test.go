package wheel_test

import (
	"math"
	"testing"

	"parclose/api"
	"parclose/wheel"
)

func TestP1302TheChaptersExample(t *testing.T) {
	w := wheel.New(0)
	if err := w.Set(3, 20); err != api.OK {
		t.Errorf("Set(3, 20): %d", err)
	}
	for i := 1; i <= 20; i++ {
		l := w.Go()
		if i < 20 && len(l) != 0 || i == 20 && (len(l) != 1 || l[0] != 3) {
			t.Errorf("Go to %d: %v", i, l)
		}
	}
}

func TestP1302SetOfAnyNumber(t *testing.T) {
	for _, start := range starts() {
		b := newBoth(t, start)
		for _, id := range numbers {
			// A number that is none is told ahead of a tick that is none.
			for _, tick := range []int{start + 5, start + 1, start, start - 1, math.MinInt, api.MaxTick, api.MaxTick + 1, math.MaxInt} {
				b.set(id, tick)
				b.place()
			}
		}
		b.look()
		b.walk(10)
	}
}

func TestP1302SetToAnyTick(t *testing.T) {
	for _, start := range starts() {
		all := append([]int{start - 2, start - 1, start, start + 1, start + 2}, ends(start)...)
		all = append(all, ticks...)
		b := newBoth(t, start)
		for _, tick := range all {
			// Of one that is not set, and of one that is.
			one := newBoth(t, start)
			one.set(255, tick)
			one.set(255, tick)
			one.place()
			one.when(255)
			b.set(0, tick)
			b.place()
			b.when(0)
		}
		b.look()
		b.walk(20)
	}
}

func TestP1302NoneButTheTicksAheadAreTaken(t *testing.T) {
	// The last of the ticks that are none, and the first and last ones that are some.
	for _, start := range starts() {
		b := newBoth(t, start)
		for id, tick := range []int{start, start + 1, api.MaxTick, api.MaxTick + 1} {
			err := b.w.Set(id, tick)
			want := api.ErrRange
			if tick > start && tick <= api.MaxTick {
				want = api.OK
			}
			if err != want {
				t.Errorf("Set(%d, %d) at %d: %d, not %d", id, tick, start, err, want)
			}
		}
	}
}

func TestP1302AnErrorChangesNothing(t *testing.T) {
	for _, start := range []int{0, 14, 255, 1<<32 - 3, api.MaxTick - 60} {
		b := newBoth(t, start)
		for id := range 10 {
			b.set(id, start+1+6*id)
		}
		for range 58 {
			for id := range 10 {
				for _, tick := range []int{b.p.now, b.p.now - 1, 0, -1, math.MinInt, api.MaxTick + 1, math.MaxInt} {
					b.set(id, tick)
				}
			}
			b.set(-1, b.p.now+1)
			b.set(api.MaxTimers, b.p.now+1)
			b.look()
			b.step()
		}
	}
}

func TestP1302SetAnew(t *testing.T) {
	for _, start := range []int{0, 13, 254, 4090, 1<<16 - 3, 1<<32 - 20, 1<<60 - 5, api.MaxTick - 600} {
		for _, first := range []int{1, 2, 3, 15, 16, 17, 40, 255, 256, 257, 300} {
			for _, then := range []int{1, 2, 3, 14, 15, 16, 18, 41, 254, 256, 258, 301} {
				b := of(t, start, timer{9, start + first}, timer{8, start + first}, timer{7, start + then})
				// To another tick, to the same one, and back.
				b.set(9, start+then)
				b.look()
				b.set(9, start+then)
				b.look()
				b.set(8, start+then)
				b.set(8, start+first)
				b.look()
				for range 310 {
					b.step()
				}
				b.look()
			}
		}
	}
}

func TestP1302SetAgainOnceItHasComeOrIsCancelled(t *testing.T) {
	for _, start := range []int{0, 13, 4090, 1<<32 - 20, api.MaxTick - 900} {
		for _, by := range []int{1, 2, 15, 16, 17, 255, 256} {
			b := of(t, start, timer{0, start + by}, timer{200, start + by})
			b.walk(by)
			b.when(0)
			b.when(200)
			b.set(0, b.p.now)
			b.look()
			b.set(0, b.p.now+by)
			b.set(200, b.p.now+1)
			b.look()
			b.cancel(0)
			b.look()
			b.set(0, b.p.now+by+1)
			b.look()
			b.walk(by + 3)
			b.set(0, b.p.now+1)
			b.walk(3)
		}
	}
}

func TestP1302CancelAndWhen(t *testing.T) {
	for _, start := range []int{0, 250, 1<<40 - 4, api.MaxTick - 400} {
		for _, l := range wheels(start) {
			b := of(t, start, l...)
			for _, id := range append([]int{12, 13, 100}, numbers...) {
				b.when(id)
				if b.p.at(id) < 0 {
					b.cancel(id)
				}
			}
			b.look()
			for i, x := range l {
				b.when(x.id)
				if i%2 == 0 {
					b.cancel(x.id)
					b.cancel(x.id)
					b.when(x.id)
				}
				b.look()
			}
			// Of those that have come.
			b.walk(100)
			for _, x := range l {
				b.when(x.id)
				b.cancel(x.id)
				b.cancel(x.id)
			}
			b.look()
			b.walk(20)
		}
	}
}

func TestP1302CancelOfSomeOfASlot(t *testing.T) {
	// Of ten timers of one tick: each one, each two, and all but each one.
	for _, by := range []int{1, 9, 30, 700} {
		for one := range 10 {
			for other := range 10 {
				b := newBoth(t, 100)
				rest := newBoth(t, 100)
				for id := range 10 {
					b.set(id, 100+by)
					rest.set(id, 100+by)
				}
				b.cancel(one)
				b.cancel(other)
				for id := range 10 {
					if id != one && id != other {
						rest.cancel(id)
					}
				}
				b.look()
				rest.look()
				for range by + 1 {
					b.step()
					rest.step()
				}
				b.look()
				rest.look()
			}
		}
	}
}

package wheel_test

import (
	"testing"

	"parclose/api"
)

func TestP1302GoOverManyTurns(t *testing.T) {
	for _, start := range []int{0, 5, 1<<12 - 1000, 1<<28 - 2000, api.MaxTick - 5001} {
		b := newBoth(t, start)
		for i := range 5000 {
			// Ticks to which none, one, and several are set, near and far, in falling order of numbers.
			for id := i * 7 % 40; id > 0 && i%3 > 0; id -= i%5 + 1 {
				b.set(id, b.p.now+1+(i*i+id/3)%(20+i%400))
			}
			b.step()
		}
		b.look()
		b.walk(450)
		if n := b.w.Len(); n != 0 {
			t.Errorf("%d are left", n)
		}
	}
}

func TestP1302OfOneTickByNumbers(t *testing.T) {
	orders := []func(i int) int{
		func(i int) int { return i },
		func(i int) int { return 255 - i },
		func(i int) int { return i * 77 % 256 },
		func(i int) int { return i ^ 0x55 },
	}
	for _, start := range []int{0, 15, 250, 1<<16 - 9, api.MaxTick - 1200} {
		for _, by := range []int{1, 2, 10, 16, 100, 256, 1000} {
			for _, order := range orders {
				for _, count := range []int{2, 3, 17, api.MaxTimers} {
					b := newBoth(t, start)
					for i := range count {
						b.set(order(i), start+by)
					}
					b.look()
					for range by - 1 {
						b.step()
					}
					b.look()
					b.step()
					b.look()
					b.step()
				}
			}
		}
	}
}

func TestP1302OfOneTickSetAtManyTimes(t *testing.T) {
	// One by one, from far ahead of the tick till just ahead of it, so that they come by way of each level.
	for _, edge := range []int{1 << 12, 1 << 16, 1 << 20, 1 << 36, 1 << 60, api.MaxTick - 300} {
		tick := edge + 0x123
		b := newBoth(t, edge-0x300)
		for id := 250; b.p.now < tick-1; id-- {
			b.set(max(id, 0), tick)
			b.walk(min(5, tick-1-b.p.now))
		}
		b.look()
		b.walk(3)
	}
}

func TestP1302AtMaxTick(t *testing.T) {
	for _, ahead := range []int{0, 1, 2, 15, 16, 17, 300} {
		b := newBoth(t, api.MaxTick-ahead)
		for id := range api.MaxTimers {
			b.set(id, api.MaxTick-id%3)
		}
		b.look()
		b.walk(ahead)
		for range 40 {
			if l := b.w.Go(); len(l) != 0 {
				t.Errorf("Go at MaxTick: %v", l)
			}
			if now := b.w.Now(); now != api.MaxTick {
				t.Errorf("Now behind it: %d", now)
			}
			b.step()
			for _, tick := range []int{0, 1, api.MaxTick - 1, api.MaxTick, api.MaxTick + 1} {
				b.set(4, tick)
			}
			b.cancel(4)
			b.when(4)
			b.look()
		}
	}
}

// stops: each tick up to tick, from start on, at which what is set to tick may go on to a lower level, and the ones next to it.
func stops(start, tick int) map[int]bool {
	l := map[int]bool{start: true, tick - 1: true, tick - 2: true, tick: true, tick + 1: true}
	for bits := 0; bits <= 60; bits += 4 {
		at := tick >> bits << bits
		for by := -1; by <= 1; by++ {
			l[at+by] = true
			l[tick-1<<bits+by] = true
		}
	}
	return l
}

func TestP1302SetAnewAndCancelledInEachLevel(t *testing.T) {
	changes := []func(b *both, tick int){
		func(b *both, tick int) { b.cancel(77) },
		func(b *both, tick int) { b.set(77, tick) },
		func(b *both, tick int) { b.set(77, tick+1) },
		func(b *both, tick int) { b.set(77, tick+40) },
		func(b *both, tick int) { b.set(77, b.p.now+1) },
		func(b *both, tick int) { b.set(77, (b.p.now+tick)/2) },
		func(b *both, tick int) { b.cancel(77); b.set(77, tick) },
		func(b *both, tick int) { b.set(77, api.MaxTick) },
	}
	for bits := 12; bits <= 60; bits += 4 {
		start, tick := 1<<bits-3, 1<<bits+0x234
		for stop := range stops(start, tick) {
			if stop < start || stop > tick+1 {
				continue
			}
			for i, change := range changes {
				b := of(t, start, timer{5, tick}, timer{77, tick}, timer{3, tick}, timer{200, tick + 1}, timer{100, tick - 1})
				for b.p.now < stop {
					b.step()
				}
				change(b, tick)
				b.look()
				for b.p.now < tick+60 {
					b.step()
				}
				b.look()
				if t.Failed() {
					t.Fatalf("change %d of what is set to %d, at %d", i, tick, stop)
				}
			}
		}
	}
}

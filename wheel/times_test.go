package wheel_test

import (
	"slices"
	"testing"

	"parclose/api"
	"parclose/wheel"
)

// round: the timers of a wheel at start, whose ticks are told by number; they come by and by, in so many steps.
func round(t *testing.T, start, steps int, ticks []int) {
	t.Helper()
	w := wheel.New(start)
	for id, tick := range ticks {
		if err := w.Set(id, tick); err != api.OK {
			t.Fatalf("Set(%d, %d) at %d: %d", id, tick, start, err)
		}
	}
	came := make([]int, len(ticks))
	at := map[int][]int{}
	for id, tick := range ticks {
		at[tick] = append(at[tick], id)
	}
	for tick := start + 1; tick <= start+steps && tick <= api.MaxTick; tick++ {
		for _, id := range w.Go() {
			if ticks[id] != tick {
				t.Fatalf("from %d: %d came at %d, not at %d", start, id, tick, ticks[id])
			}
			came[id]++
		}
		// Each is looked at time and again, and just ahead of its tick and behind it.
		for id := tick % 37; id < len(ticks); id += 37 {
			stands(t, w, id, tick, ticks[id])
		}
		for near := tick - 2; near <= tick+2; near++ {
			for _, id := range at[near] {
				stands(t, w, id, tick, near)
			}
		}
	}
	for id, tick := range ticks {
		want := 0
		if tick <= start+steps {
			want = 1
		}
		if came[id] != want {
			t.Errorf("from %d: %d, which is set to %d, came %d times in %d steps", start, id, tick, came[id], steps)
		}
		stands(t, w, id, w.Now(), tick)
	}
}

// stands holds a timer at now to what it tells: its tick, till that has come.
func stands(t *testing.T, w *wheel.Wheel, id, now, tick int) {
	got, ok := w.When(id)
	if set := tick > now; ok != set || set && got != tick || !set && got != 0 {
		t.Fatalf("When(%d), which is set to %d, at %d: %d, %v", id, tick, now, got, ok)
	}
}

// chosen: as many ticks as there are timers, at most, ahead of start: near ones, those at which levels end, those behind the next edges, and far ones.
func chosen(start int) []int {
	l := ends(start)
	for by := 1; by <= 40; by++ {
		l = append(l, start+by)
	}
	for bits := 8; bits <= 60; bits += 4 {
		// The next edge, and what goes on from there to each lower level.
		edge := start | (1<<bits - 1) + 1
		l = append(l, edge+15, edge+16, edge+0x101, edge+0x123, edge+0x1000, edge+0x1234)
	}
	l = append(l, 1<<61, 1<<61+5, api.MaxTick-16)
	slices.Sort(l)
	l = slices.Compact(l)
	l = slices.DeleteFunc(l, func(tick int) bool { return tick <= start || tick > api.MaxTick })
	// If there are too many, the ones in the midst are left out.
	if over := len(l) - api.MaxTimers; over > 0 {
		l = slices.Delete(l, 150, 150+over)
	}
	return l
}

func TestP1303EachComesAtItsTickOnce(t *testing.T) {
	for _, start := range starts() {
		round(t, start, 4800, chosen(start))
	}
}

func TestP1303NumbersInAnyOrder(t *testing.T) {
	for _, start := range []int{0, 1<<8 - 1, 1<<16 - 5, 1<<40 - 2, 4<<56 - 20, api.MaxTick - 4000} {
		l := chosen(start)
		slices.Reverse(l)
		round(t, start, 4800, l)
		// Every second one ahead of the other ones.
		var evens, odds []int
		for i, tick := range l {
			if i%2 == 0 {
				evens = append(evens, tick)
			} else {
				odds = append(odds, tick)
			}
		}
		round(t, start, 4800, append(evens, odds...))
	}
}

func TestP1303EachNearTick(t *testing.T) {
	for _, start := range starts() {
		var l []int
		for by := 1; by <= api.MaxTimers && start+by <= api.MaxTick; by++ {
			l = append(l, start+by)
		}
		round(t, start, 300, l)
		// And all of some of them, many of each.
		for i := range l {
			l[i] = start + 1 + i*i%min(97, len(l))
		}
		round(t, start, 300, l)
	}
}

func TestP1303OneAloneFarAhead(t *testing.T) {
	// It goes on by all levels that are between, and it alone.
	for _, by := range []int{1, 15, 16, 17, 255, 256, 257, 4095, 4096, 4097, 0xffff, 1 << 16, 1<<16 + 1, 0x12345} {
		for _, start := range []int{0, 1, 9, 0xfff, 1<<20 - 1, 1<<44 - 7, api.MaxTick - by} {
			round(t, start, by+40, []int{start + by})
		}
	}
}

func TestP1303FarFromZero(t *testing.T) {
	// Over all turns of the five lowest levels, with some in each of the other ones.
	var l []int
	for bits := 0; bits < 62; bits += 2 {
		l = append(l, 1<<bits, 1<<bits+1, 1<<bits+0x3fff)
	}
	round(t, 0, 1<<20+1<<15, append(l, api.MaxTick-1, api.MaxTick))
}

func TestP1303SetAnewAllTheWhile(t *testing.T) {
	// One that is set anew at each tick, a tick later, never comes; once it is left, it does.
	for _, start := range []int{0, 250, 1<<16 - 300, 1<<48 - 500, api.MaxTick - 1100} {
		for _, by := range []int{2, 16, 17, 255, 300} {
			b := of(t, start, timer{1, start + by}, timer{2, start + 700})
			for range 600 {
				b.step()
				b.set(1, b.p.now+by)
				b.when(1)
			}
			b.walk(by + 120)
		}
	}
}

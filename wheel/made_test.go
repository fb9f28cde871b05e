package wheel_test

import (
	"math"
	"testing"

	"parclose/api"
	"parclose/wheel"
)

// isNone holds a wheel that is none to its answers, whatever it is handed.
func isNone(t *testing.T, what string, w *wheel.Wheel) {
	t.Helper()
	for _, id := range numbers {
		for _, tick := range ticks {
			if err := w.Set(id, tick); err != api.ErrArg {
				t.Errorf("%s: Set(%d, %d): %d", what, id, tick, err)
			}
		}
		if w.Cancel(id) {
			t.Errorf("%s: Cancel(%d): true", what, id)
		}
		if tick, ok := w.When(id); tick != 0 || ok {
			t.Errorf("%s: When(%d): %d, %v", what, id, tick, ok)
		}
		if l := w.Go(); len(l) != 0 {
			t.Errorf("%s: Go: %v", what, l)
		}
		if now := w.Now(); now != 0 {
			t.Errorf("%s: Now: %d", what, now)
		}
		if n := w.Len(); n != 0 {
			t.Errorf("%s: Len: %d", what, n)
		}
	}
}

func TestP1301NilWheel(t *testing.T) {
	isNone(t, "a nil Wheel", nil)
}

func TestP1301WheelsThatNewDidNotMake(t *testing.T) {
	var w wheel.Wheel
	made := wheel.New(20)
	made.Set(3, 29)
	made.Go()
	*made = wheel.Wheel{}
	for what, a := range map[string]*wheel.Wheel{"the zero Wheel": &w, "a new Wheel": new(wheel.Wheel), "a literal": {}, "one that was made zero": made} {
		isNone(t, what, a)
		// And once more, over some turns, as it stays so.
		for range 5 {
			isNone(t, what, a)
		}
	}
}

func TestP1302NewAtAnyTick(t *testing.T) {
	rows := []struct{ asked, start int }{
		{math.MinInt, 0}, {math.MinInt + 1, 0}, {-1 << 62, 0}, {-1 << 32, 0}, {-256, 0}, {-16, 0}, {-2, 0}, {-1, 0},
		{0, 0}, {1, 1}, {2, 2}, {15, 15}, {16, 16}, {17, 17}, {255, 255}, {256, 256}, {1 << 31, 1 << 31}, {1 << 32, 1 << 32},
		{1<<32 + 5, 1<<32 + 5}, {1 << 60, 1 << 60}, {1 << 61, 1 << 61}, {1<<61 + 7, 1<<61 + 7},
		{api.MaxTick - 2, api.MaxTick - 2}, {api.MaxTick - 1, api.MaxTick - 1}, {api.MaxTick, api.MaxTick},
		{api.MaxTick + 1, api.MaxTick}, {api.MaxTick + 2, api.MaxTick}, {1<<62 + 1<<61, api.MaxTick}, {math.MaxInt - 1, api.MaxTick}, {math.MaxInt, api.MaxTick},
	}
	for _, r := range rows {
		w := wheel.New(r.asked)
		if w == nil {
			t.Fatalf("New(%d): nil", r.asked)
		}
		b := &both{t, w, &plain{now: r.start}}
		b.look()
		for _, id := range numbers {
			b.when(id)
			b.cancel(id)
		}
		// It is a wheel like any other one there.
		b.set(5, r.start)
		b.set(6, r.start+1)
		b.set(7, min(r.start+20, api.MaxTick))
		b.look()
		b.walk(25)
		if t.Failed() {
			t.Fatalf("New(%d)", r.asked)
		}
	}
}

func TestP1302StartsOfEveryKind(t *testing.T) {
	for _, start := range starts() {
		b := newBoth(t, start)
		b.look()
		b.walk(40)
	}
}

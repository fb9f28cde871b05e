package demand

import (
	"testing"

	"parclose/conf"
)

func TestP905LowModeDoesNotFall(t *testing.T) {
	for _, k := range tasks() {
		for n := 1; n <= 2*k.T+k.D+2; n++ {
			if a, b := Of(k, n-1, false), Of(k, n, false); b < a {
				t.Errorf("%+v: of %d ticks it is %d, and of one less %d", k, n, b, a)
			}
		}
		for _, n := range timesOf(k) {
			if a, b := Of(k, n, false), Of(k, n+1, false); n+1 > n && b < a {
				t.Errorf("%+v: of %d ticks it is %d, and of one less %d", k, n+1, b, a)
			}
		}
	}
	for _, s := range servers() {
		for n := 1; n <= 3*s.T+2; n++ {
			if a, b := Serve(s, n-1), Serve(s, n); b < a {
				t.Errorf("%+v: of %d ticks it is %d, and of one less %d", s, n, b, a)
			}
		}
	}
	for _, a := range parts() {
		before := 0
		for n := -3; n <= 2100; n++ {
			now := Low(a, n)
			if now < before {
				t.Errorf("%+v: of %d ticks it is %d, and of one less %d", a, n, now, before)
			}
			before = now
		}
	}
}

func TestP905NeverBelowZero(t *testing.T) {
	for _, k := range append(tasks(), wrongTasks()...) {
		for _, inHigh := range modes {
			for _, n := range timesOf(k) {
				if d := Of(k, n, inHigh); d < 0 {
					t.Errorf("%+v, high %v: of %d ticks it is %d", k, inHigh, n, d)
				}
			}
			for n := range 2200 {
				if d := Of(k, n, inHigh); d < 0 {
					t.Errorf("%+v, high %v: of %d ticks it is %d", k, inHigh, n, d)
				}
			}
		}
	}
	for _, s := range append(servers(), wrongServers()...) {
		for _, n := range near(10, s.C) {
			if d := Serve(s, n); d < 0 {
				t.Errorf("%+v: of %d ticks it is %d", s, n, d)
			}
		}
	}
	for _, a := range parts() {
		for _, n := range near(10, 13) {
			if Low(a, n) < 0 || High(a, n) < 0 || Rate(n, a, false) < 0 || Rate(n, a, true) < 0 {
				t.Errorf("%+v: of %d ticks it is below 0", a, n)
			}
		}
	}
}

func TestP905APeriodMore(t *testing.T) {
	for _, k := range tasks() {
		for n := k.V; n <= k.V+2*k.T+1; n++ {
			if more := Of(k, n+k.T, false) - Of(k, n, false); more != k.Lo {
				t.Errorf("%+v: of a period more than %d ticks it is %d more", k, n, more)
			}
		}
		for n := k.D; k.Hi && n <= k.D+2*k.T+1; n++ {
			if more := Of(k, n+k.T, true) - Of(k, n, true); more != k.Top {
				t.Errorf("%+v, high: of a period more than %d ticks it is %d more", k, n, more)
			}
		}
		for _, n := range timesOf(k) {
			if n < k.D || n > far-k.T {
				continue
			}
			if more := Of(k, n+k.T, false) - Of(k, n, false); more != k.Lo {
				t.Errorf("%+v: of a period more than %d ticks it is %d more", k, n, more)
			}
			if more := Of(k, n+k.T, true) - Of(k, n, true); k.Hi && more != k.Top {
				t.Errorf("%+v, high: of a period more than %d ticks it is %d more", k, n, more)
			}
		}
	}
}

func TestP905AServersPeriodMore(t *testing.T) {
	check := func(s conf.Server, n int) {
		if more := Serve(s, n+s.T) - Serve(s, n); more != s.C {
			t.Errorf("%+v: of a period more than %d ticks it is %d more", s, n, more)
		}
	}
	for _, s := range servers() {
		for n := s.T; n <= 3*s.T+2; n++ {
			check(s, n)
		}
		for _, n := range []int{1 << 20, 1<<32 + 1, far - s.T - 1, far - s.T} {
			check(s, n)
		}
	}
}

package police_test

import (
	"testing"

	"parclose/api"
	"parclose/conf"
	"parclose/police"
)

func TestP1602TheChaptersExample(t *testing.T) {
	for _, task := range []conf.Task{high(10), low(10), other(true, 10), other(false, 10)} {
		p := police.New(task)
		for _, r := range []struct {
			now  int
			want api.Errno
		}{{3, api.OK}, {12, api.ErrSoon}, {13, api.OK}} {
			if err := p.May(0, r.now); err != r.want {
				t.Errorf("%v: May(0, %d): %d", task, r.now, err)
			}
			if err := p.Take(0, r.now); err != r.want {
				t.Errorf("%v: Take(0, %d): %d", task, r.now, err)
			}
		}
		if n, ok := p.Last(0); n != 13 || !ok {
			t.Errorf("%v: Last(0): %d, %v", task, n, ok)
		}
	}
}

func TestP1602TasksThatAreNone(t *testing.T) {
	for n := range maxTasks + 1 {
		p := police.New(mixed()[:n]...)
		for _, drops := range []bool{false, true, false} {
			p.Drop(drops)
			for _, task := range append([]int{n - 1, n, n + 1, -n}, numbers...) {
				if task >= 0 && task < n {
					continue
				}
				for _, now := range []int{0, 1, 500, maxTick} {
					if err := p.May(task, now); err != api.ErrArg {
						t.Errorf("May(%d, %d) of %d: %d", task, now, n, err)
					}
					if err := p.Take(task, now); err != api.ErrArg {
						t.Errorf("Take(%d, %d) of %d: %d", task, now, n, err)
					}
				}
				if at, ok := p.Last(task); at != 0 || ok {
					t.Errorf("Last(%d) of %d: %d, %v", task, n, at, ok)
				}
				if p.Dropped(task) {
					t.Errorf("Dropped(%d) of %d: true", task, n)
				}
			}
		}
	}
}

func TestP1602AFirstArrivalAtAnyTick(t *testing.T) {
	for task, x := range mixed() {
		for _, now := range numbers {
			want := api.ErrArg
			if now >= 0 && now <= maxTick {
				want = api.OK
			}
			b := newBoth(t, mixed()...)
			if err := b.p.May(task, now); err != want {
				t.Errorf("%v: May(%d, %d): %d, not %d", x, task, now, err, want)
			}
			if at, ok := b.p.Last(task); at != 0 || ok {
				t.Errorf("%v: Last behind May: %d, %v", x, at, ok)
			}
			b.take(task, now)
			at, ok := b.p.Last(task)
			if want == api.OK && (at != now || !ok) || want != api.OK && (at != 0 || ok) {
				t.Errorf("%v: Last behind Take at %d: %d, %v", x, now, at, ok)
			}
			b.look()
			b.stop("a first arrival")
		}
	}
}

// periods: of tasks, their edges too.
var periods = []int{1, 2, 3, 9, 10, 11, 255, 256, 999, maxPeriod}

// firsts: ticks at which one may be accepted, near 0 and near MaxTick, for a period.
func firsts(period int) []int {
	l := []int{5000, 1<<32 - 1, 1 << 32, maxTick / 2}
	for near := range 4 {
		l = append(l, near, period+near, maxTick-near, maxTick-period-near, maxTick-2*period-near)
	}
	if period > 4 {
		l = append(l, period-1, period-2, maxTick-period+1, maxTick-period+2)
	}
	return l
}

// hold holds what comes at a tick, of a fresh Police whose task was accepted at first alone, to the error there.
func hold(t *testing.T, task conf.Task, first, now int, want api.Errno) {
	t.Helper()
	p := police.New(low(5), task, high(5))
	if err := p.Take(1, first); err != api.OK {
		t.Errorf("%v: Take(1, %d) at first: %d", task, first, err)
	}
	for range 2 {
		if err := p.May(1, now); err != want {
			t.Errorf("%v, accepted at %d: May(1, %d): %d, not %d", task, first, now, err, want)
		}
		if n, ok := p.Last(1); n != first || !ok {
			t.Errorf("%v, accepted at %d: Last behind May: %d, %v", task, first, n, ok)
		}
	}
	if err := p.Take(1, now); err != want {
		t.Errorf("%v, accepted at %d: Take(1, %d): %d, not %d", task, first, now, err, want)
	}
	last := first
	if want == api.OK {
		last = now
	}
	if n, ok := p.Last(1); n != last || !ok {
		t.Errorf("%v, accepted at %d: Last behind Take at %d: %d, %v", task, first, now, n, ok)
	}
	for _, beside := range []int{0, 2} {
		if n, ok := p.Last(beside); n != 0 || ok {
			t.Errorf("%v: Last of the one beside it: %d, %v", task, n, ok)
		}
	}
	if t.Failed() {
		t.FailNow()
	}
}

func TestP1602TooSoonOrNot(t *testing.T) {
	for _, period := range periods {
		tasks := []conf.Task{high(period), low(period)}
		if period > 8 {
			tasks = append(tasks, other(true, period), other(false, period))
		}
		for _, task := range tasks {
			for _, first := range firsts(period) {
				// Ahead of it, at it, and behind it, up to ahead of the period's end.
				for _, now := range []int{first - 2*period, first - period - 1, first - period, first - period + 1, first - 2, first - 1, first, first + 1, first + period/2, first + period - 2, first + period - 1, 0, maxTick} {
					if now >= 0 && now <= maxTick && now < first+period {
						hold(t, task, first, now, api.ErrSoon)
					}
				}
				for _, now := range []int{first + period, first + period + 1, first + 2*period, first + 9999, maxTick - 1, maxTick} {
					if now <= maxTick && now >= first+period {
						hold(t, task, first, now, api.OK)
					}
				}
				for _, now := range []int{-1, -period, first - maxTick - 1, maxTick + 1, maxTick + period} {
					if now < 0 || now > maxTick {
						hold(t, task, first, now, api.ErrArg)
					}
				}
			}
		}
	}
}

func TestP1602AtTicksThatAreNone(t *testing.T) {
	b := newBoth(t, mixed()...)
	for range 2 {
		for task := range mixed() {
			for _, now := range numbers {
				if now >= 0 && now <= maxTick {
					continue
				}
				for _, drops := range []bool{false, true, false} {
					b.drop(drops)
					if err := b.p.May(task, now); err != api.ErrArg {
						t.Errorf("May(%d, %d): %d", task, now, err)
					}
					if err := b.p.Take(task, now); err != api.ErrArg {
						t.Errorf("Take(%d, %d): %d", task, now, err)
					}
				}
			}
		}
		b.look()
		b.stop("at ticks that are none")
		// And once more, of tasks that were accepted.
		for task := range mixed() {
			b.take(task, 700)
		}
	}
}

func TestP1602ARefusedTakeChangesNothing(t *testing.T) {
	for task, x := range mixed() {
		b := newBoth(t, mixed()...)
		b.take(task, 2000)
		// Too soon, from the last tick of the period down to the first tick of all, and so the period is not counted anew.
		for now := 1999 + x.T; now >= 0; now -= max(1, x.T/3) {
			if err := b.p.Take(task, now); err != api.ErrSoon {
				t.Errorf("Take(%d, %d): %d", task, now, err)
			}
			b.look()
		}
		b.stop("too soon")
		for _, now := range []int{-1, maxTick + 1} {
			b.take(task, now)
			b.look()
		}
		b.drop(true)
		b.take(task, 1999+x.T)
		b.look()
		if !x.Hi {
			// Not too soon, but dropped.
			if err := b.p.Take(task, 2000+x.T); err != api.ErrDropped {
				t.Errorf("Take(%d) while it is dropped: %d", task, err)
			}
			b.look()
		}
		b.drop(false)
		b.take(task, 1999+x.T)
		b.look()
		if err := b.p.Take(task, 2000+x.T); err != api.OK {
			t.Errorf("Take(%d, %d) behind those that were refused: %d", task, 2000+x.T, err)
		}
		if n, ok := b.p.Last(task); n != 2000+x.T || !ok {
			t.Errorf("Last(%d): %d, %v", task, n, ok)
		}
		if t.Failed() {
			t.Fatalf("%v", x)
		}
	}
}

func TestP1602MayChangesNothing(t *testing.T) {
	for task, x := range mixed() {
		b := newBoth(t, mixed()...)
		// A row of looks at arrivals that would all be taken, none of which then minds the next one.
		for now := range 3 {
			if err := b.p.May(task, 10+now); err != api.OK {
				t.Errorf("May(%d, %d): %d", task, 10+now, err)
			}
			if err := b.p.May(task, 10-now); err != api.OK {
				t.Errorf("May(%d, %d): %d", task, 10-now, err)
			}
		}
		b.look()
		b.take(task, 9)
		for now := 9 + x.T; now <= 11+x.T; now++ {
			if err := b.p.May(task, now); err != api.OK {
				t.Errorf("May(%d, %d): %d", task, now, err)
			}
		}
		b.lookFar()
		b.take(task, 9+x.T)
		b.lookFar()
		b.stop("May")
	}
}

func TestP1602TasksDontMindEachOther(t *testing.T) {
	// Each task's arrivals alone, then each other task looked at.
	for task := range mixed() {
		b := newBoth(t, mixed()...)
		for round := range 4 {
			b.take(task, round*maxPeriod)
			b.look()
			for beside := range mixed() {
				if n, ok := b.p.Last(beside); beside != task && (n != 0 || ok) {
					t.Errorf("Last(%d), as %d arrives: %d, %v", beside, task, n, ok)
				}
				if err := b.p.May(beside, round*maxPeriod); beside != task && err != api.OK {
					t.Errorf("May(%d), as %d arrives: %d", beside, task, err)
				}
			}
		}
		b.stop("one by itself")
	}
	// All at once, each at its own pace.
	b := newBoth(t, mixed()...)
	for now := range 2200 {
		for task := range mixed() {
			b.take(task, now)
		}
	}
	b.look()
	for task, x := range mixed() {
		if n := len(b.b.taken[task]); n != (2200+x.T-1)/x.T {
			t.Errorf("%d of T %d was accepted %d times", task, x.T, n)
		}
	}
}

func TestP1602LastOfEach(t *testing.T) {
	p := police.New(mixed()...)
	for task := -1; task <= maxTasks; task++ {
		if n, ok := p.Last(task); n != 0 || ok {
			t.Errorf("Last(%d) of one that was never accepted: %d, %v", task, n, ok)
		}
	}
	// An arrival at 0 is one, and more of them follow, each told as the last one; while it is dropped, too.
	for _, at := range []int{0, maxPeriod, 2*maxPeriod + 7, maxTick - maxPeriod, maxTick} {
		for task := range mixed() {
			if err := p.Take(task, at); err != api.OK {
				t.Errorf("Take(%d, %d): %d", task, at, err)
			}
		}
		for _, drops := range []bool{false, true, false} {
			p.Drop(drops)
			for task := range mixed() {
				if n, ok := p.Last(task); n != at || !ok {
					t.Errorf("Last(%d): %d, %v, not %d", task, n, ok, at)
				}
			}
			for _, task := range []int{-1, maxTasks} {
				if n, ok := p.Last(task); n != 0 || ok {
					t.Errorf("Last(%d): %d, %v", task, n, ok)
				}
			}
		}
	}
}

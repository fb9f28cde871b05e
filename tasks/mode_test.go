package tasks_test

import (
	"slices"
	"testing"

	"parclose/api"
	"parclose/conf"
	"parclose/tasks"
)

// tells holds a list that was told to what the document says.
func tells(t *testing.T, what string, l []int, want ...int) {
	t.Helper()
	if !slices.Equal(l, want) {
		t.Errorf("%s: %v, not %v", what, l, want)
	}
}

// all: a job of each task, put from the last one on, so that none is told in the order in which they came.
func all(t *testing.T, l []conf.Task) *both {
	t.Helper()
	b := newBoth(t, l...)
	for task := len(l) - 1; task >= 0; task-- {
		b.put(jobOf(task, 10+task, 50, opsOf(10*task, 3)...))
	}
	b.look()
	return b
}

func TestP1904RiseOfWhatIsThere(t *testing.T) {
	// Each set of jobs, of each of these lists of tasks.
	for _, l := range [][]conf.Task{mixed(), {low(), low(), short(), low(), low(), short()}, {high(), level(), wide(), high(), high(), long()}, {high(), low()}, {low()}, {level()}} {
		for set := range 1 << len(l) {
			b := newBoth(t, l...)
			var lost []int
			for task, x := range l {
				if set>>task&1 == 1 {
					b.puts(jobOf(task, task, 5), api.OK)
					if !x.Hi {
						lost = append(lost, task)
					}
				}
			}
			n := b.c.Len()
			tells(t, "Rise", b.c.Rise(), lost...)
			b.b.rise()
			if b.c.Len() != n-len(lost) || !b.c.High() {
				t.Errorf("behind Rise: %d of %d jobs, high: %v", b.c.Len(), n, b.c.High())
			}
			b.look()
			// Those that are left are there, and a second one takes none away.
			for range 2 {
				tells(t, "another Rise", b.c.Rise())
				b.look()
			}
			for task := range l {
				b.put(jobOf(task, task, 5))
				b.run(task, 2)
			}
			b.rise()
			b.look()
			b.stop("Rise")
		}
	}
}

func TestP1904RiseOfNone(t *testing.T) {
	for n := range maxTasks + 1 {
		b := newBoth(t, mixed()[:n]...)
		for range 3 {
			tells(t, "Rise of none", b.c.Rise())
			b.b.rise()
			if !b.c.High() {
				t.Error("not high behind Rise")
			}
			b.look()
		}
		b.fall()
		b.look()
		b.rise()
		b.look()
		b.stop("Rise of none")
	}
}

func TestP1904RiseKeepsWhatIsDone(t *testing.T) {
	for done := range 3 {
		b := all(t, mixed())
		for task := range maxTasks {
			b.run(task, done)
		}
		b.rise()
		b.look()
		for task := range maxTasks {
			b.run(task, 2)
		}
		b.look()
		b.stop("what is done")
	}
}

// falls holds Fall, and the mode ahead of it and behind it, to what the document says.
func falls(t *testing.T, what string, b *both, high, want bool) {
	t.Helper()
	if b.c.High() != high {
		t.Errorf("%s: high: %v", what, !high)
	}
	if got := b.c.Fall(); got != want {
		t.Errorf("%s: Fall: %v", what, got)
	}
	b.b.fall()
	if b.c.High() != (high && !want) {
		t.Errorf("%s: behind Fall: high: %v", what, b.c.High())
	}
	b.look()
}

func TestP1904Fall(t *testing.T) {
	for n := range maxTasks + 1 {
		b := newBoth(t, mixed()[:n]...)
		falls(t, "low, without jobs", b, false, false)
		if n > 0 {
			b.puts(jobOf(0, 3, 2), api.OK)
			falls(t, "low, with a job", b, false, false)
			b.rise()
			falls(t, "high, with a job", b, true, false)
			falls(t, "high, with a job, again", b, true, false)
			b.run(0, 1)
			falls(t, "high, with a job that ran", b, true, false)
			b.run(0, 1)
		} else {
			b.rise()
		}
		falls(t, "high, without jobs", b, true, true)
		falls(t, "low again", b, false, false)
		b.rise()
		b.rise()
		falls(t, "high again, without jobs", b, true, true)
		falls(t, "low once more", b, false, false)
		b.stop("Fall")
	}
}

func TestP1904FallBehindEachCallThatTakesTheLastOneAway(t *testing.T) {
	ended, over, missed := func(b *both) { b.run(0, 5) }, func(b *both) { b.run(0, 6) }, func(b *both) { b.missed(25) }
	rows := []struct {
		what string
		work int
		call func(*both)
	}{{"ended", 5, ended}, {"over", 99, over}, {"missed", 5, missed}}
	for _, row := range rows {
		what, call := row.what, row.call
		b := newBoth(t, high(), low())
		b.rise()
		b.puts(jobOf(0, 10, row.work), api.OK)
		falls(t, what+", ahead of it", b, true, false)
		call(b)
		falls(t, what, b, true, true)
		// Low ones may come again.
		b.puts(jobOf(1, 30, 1), api.OK)
		b.look()
		b.stop(what)
	}
	// By Rise itself, too: then just that of low tasks are gone.
	b := with(t, []conf.Task{low(), short()}, jobOf(0, 1, 1), jobOf(1, 1, 1))
	b.rise()
	falls(t, "of low tasks alone", b, true, true)
	b.stop("Rise")
}

func TestP1904ClearIsNoFall(t *testing.T) {
	b := all(t, mixed())
	b.rise()
	b.clear()
	falls(t, "cleared", b, false, false)
	b.stop("Clear")
}

func TestP1904MissedOfOne(t *testing.T) {
	for _, x := range []conf.Task{high(), wide(), level(), low(), short(), long()} {
		for _, arrived := range []int{0, 1, 9, 1 << 40, maxTick - 1, maxTick} {
			for _, rise := range []bool{false, true} {
				if rise && !x.Hi {
					continue
				}
				due := arrived + x.D
				for _, now := range append([]int{due - 1, due, due + 1, arrived, arrived + x.V, due - x.D - 1}, numbers...) {
					b := with(t, []conf.Task{low(), x}, jobOf(1, arrived, 9))
					if rise {
						b.rise()
					}
					l := b.c.Missed(now)
					b.b.missed(now)
					if now < due {
						tells(t, "ahead of it", l)
					} else {
						tells(t, "by then", l, 1)
						tells(t, "once more", b.c.Missed(now))
						b.run(1, 1)
					}
					b.look()
					b.put(jobOf(1, arrived, 9))
					b.look()
					b.stop("Missed")
				}
			}
		}
	}
}

func TestP1904MissedOfMore(t *testing.T) {
	// Have to be done by 25, 23, 42, 14, 29, 1015.
	for _, rise := range []bool{false, true} {
		whole := all(t, mixed())
		if rise {
			whole.rise()
		}
		for now := 10; now < 50; now++ {
			// All that have to be by then at once, as well as one by one.
			b := all(t, mixed())
			if rise {
				b.rise()
			}
			b.missed(now)
			b.look()
			whole.missed(now)
			whole.look()
			if b.c.Len() != whole.c.Len() {
				t.Errorf("Missed(%d): %d are left, one by one %d", now, b.c.Len(), whole.c.Len())
			}
			b.missed(now - 5)
			b.look()
			b.stop("Missed")
		}
	}
	// They are told by numbers, not by when they had to be done, nor as they came.
	b := all(t, mixed())
	tells(t, "four of six", b.c.Missed(29), 0, 1, 3, 4)
	tells(t, "the last but one", b.c.Missed(1014), 2)
	tells(t, "all are gone", b.c.Missed(maxTick), 5)
	tells(t, "none", b.c.Missed(maxTick+maxPeriod))
	if b.c.Len() != 0 {
		t.Errorf("%d are left", b.c.Len())
	}
	b = all(t, mixed())
	tells(t, "all", b.c.Missed(maxTick), 0, 1, 2, 3, 4, 5)
	b.b.missed(maxTick)
	b.look()
	b.stop("Missed")
}

func TestP1904MissedIsNotWhatIsDue(t *testing.T) {
	// In low mode it is due at V, and has to be done by D still.
	b := with(t, []conf.Task{wide()}, jobOf(0, 100, 2))
	firstIs(t, "due", b.c, 0, 105)
	for now := 100; now < 130; now++ {
		tells(t, "behind V", b.c.Missed(now))
	}
	b.look()
	tells(t, "by D", b.c.Missed(130), 0)
	b.b.missed(130)
	b.look()
	b.stop("Missed")
}

func TestP1904MissedOfNone(t *testing.T) {
	for n := range maxTasks + 1 {
		b := newBoth(t, mixed()[:n]...)
		for _, rise := range []bool{false, true} {
			if rise {
				b.rise()
			}
			for _, now := range numbers {
				tells(t, "none", b.c.Missed(now))
			}
			b.look()
			b.stop("Missed of none")
		}
	}
}

func TestP1904GetTellsWhatIsDone(t *testing.T) {
	ops := opsOf(0, 4)
	b := with(t, []conf.Task{low(), long()}, jobOf(1, 33, 85, ops...))
	for done := range 75 {
		j, ok := b.c.Get(1)
		if want := (tasks.Job{Task: 1, Arrived: 33, Work: 85, Done: done, Ops: ops}); !ok || !sameJob(j, want) {
			t.Errorf("Get: %v, %v, not %v", j, ok, want)
		}
		if n := b.c.Len(); n != 1 {
			t.Errorf("Len: %d", n)
		}
		b.run(1, 1)
	}
	b.look()
	b.stop("Get")
}

func TestP1904LenOfEach(t *testing.T) {
	b := newBoth(t, mixed()...)
	for task := range maxTasks {
		b.puts(jobOf(task, task, 2), api.OK)
		b.puts(jobOf(task, task, 2), api.ErrThere)
		if n := b.c.Len(); n != task+1 {
			t.Errorf("behind %d: Len: %d", task+1, n)
		}
		b.look()
	}
	for task := range maxTasks {
		b.run(task, 2)
		if n := b.c.Len(); n != maxTasks-task-1 {
			t.Errorf("without %d: Len: %d", task+1, n)
		}
		b.look()
	}
	b.stop("Len")
}

func TestP1904Clear(t *testing.T) {
	for _, rise := range []bool{false, true} {
		for n := range maxTasks + 1 {
			b := all(t, mixed()[:n])
			for range 2 {
				if rise {
					b.rise()
				}
				for task := range n {
					b.run(task, 2)
				}
				b.look()
				b.clear()
				hasNone(t, "behind Clear", b.c)
				if b.c.High() || b.c.Fall() {
					t.Error("behind Clear: high, or falls")
				}
				// All is as at first: nothing is done of what comes then.
				for task := range n {
					b.puts(jobOf(task, 3*task, 4, opsOf(40*task, 2)...), api.OK)
				}
				b.look()
			}
			b.clear()
			b.clear()
			b.look()
			b.stop("Clear")
		}
	}
}

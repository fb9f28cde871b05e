package tasks_test

import (
	"math"
	"slices"
	"testing"

	"parclose/api"
	"parclose/conf"
	"parclose/tasks"
)

// puts holds one Put to its answer, besides.
func (b *both) puts(j tasks.Job, want api.Errno) {
	b.t.Helper()
	if got := newPlainOf(b.b).put(j); got != want {
		b.t.Fatalf("the plain one answers %d of Put(%v), not %d", got, j, want)
	}
	b.put(j)
}

// newPlainOf: another one that is just alike.
func newPlainOf(b *plain) *plain {
	return &plain{slices.Clone(b.tasks), slices.Clone(b.jobs), b.rose}
}

func TestP1902PutOfATaskThereIsNone(t *testing.T) {
	for n := range maxTasks + 1 {
		b := newBoth(t, mixed()[:n]...)
		for range 2 {
			for _, task := range append([]int{n, n + 1}, numbers...) {
				if task < 0 || task >= n {
					b.puts(jobOf(task, 0, 1), api.ErrArg)
					b.look()
				}
			}
			// And with jobs there.
			for task := range n {
				b.put(jobOf(task, 5, 2))
			}
		}
		b.stop("a task there is none")
	}
}

// wrongJobs: of a task, each by one thing. rightJobs: at the edges of these.
func wrongJobs(task int) []tasks.Job {
	l := []tasks.Job{
		jobOf(task, -1, 1), jobOf(task, maxTick+1, 1), jobOf(task, 0, 0), jobOf(task, 0, -1), jobOf(task, 0, maxWork+1),
		jobOf(task, 0, 1, opsOf(0, maxOps+1)...), jobOf(task, 0, 1, make([]tasks.Op, maxOps+1)...), jobOf(task, 0, 1, make([]tasks.Op, 1<<12)...),
	}
	for _, n := range numbers {
		if n != 0 {
			l = append(l, tasks.Job{Task: task, Work: 1, Done: n}, tasks.Job{Task: task, Work: maxWork, Done: n})
		}
		if n < 0 || n > maxTick {
			l = append(l, jobOf(task, n, 1))
		}
		if n < 1 || n > maxWork {
			l = append(l, jobOf(task, 0, n))
		}
	}
	return l
}

func rightJobs(task int) []tasks.Job {
	return []tasks.Job{
		jobOf(task, 0, 1), jobOf(task, 1, 1), jobOf(task, maxTick-1, 1), jobOf(task, maxTick, 1),
		jobOf(task, 0, 2), jobOf(task, 0, maxWork-1), jobOf(task, 0, maxWork), jobOf(task, maxTick, maxWork),
		{Task: task, Work: 1, Ops: []tasks.Op{}}, jobOf(task, 0, 1, opsOf(0, 1)...), jobOf(task, 0, 1, make([]tasks.Op, 2)...),
		jobOf(task, 0, 1, opsOf(0, maxOps-1)...), jobOf(task, 0, 1, opsOf(0, maxOps)...), jobOf(task, maxTick, maxWork, opsOf(5, maxOps)...),
		jobOf(task, 0, 3, tasks.Op{Kind: math.MinInt, A: math.MaxInt, B: -1}, tasks.Op{}, tasks.Op{B: 1 << 62}),
	}
}

func TestP1902PutOfEachEdge(t *testing.T) {
	for _, rise := range []bool{false, true} {
		for task := range maxTasks {
			b := newBoth(t, mixed()...)
			if rise {
				b.rise()
			}
			for _, j := range wrongJobs(task) {
				b.puts(j, api.ErrArg)
				b.look()
			}
			for _, j := range rightJobs(task) {
				if rise && !b.b.tasks[task].Hi {
					b.puts(j, api.ErrDropped)
					b.look()
					continue
				}
				b.puts(j, api.OK)
				b.look()
				b.run(task, 3)
				b.look()
				b.clear()
				if rise {
					b.rise()
				}
			}
			b.stop("the edges")
		}
	}
}

func TestP1902PutOfATaskThatHasAJob(t *testing.T) {
	for task := range maxTasks {
		for _, j := range rightJobs(task) {
			b := with(t, mixed(), j)
			for range 2 {
				b.puts(j, api.ErrThere)
				b.puts(jobOf(task, 7, 5, opsOf(90, 4)...), api.ErrThere)
				// What was there is as it was, and of the others nothing is.
				b.look()
			}
			b.run(task, 1)
			if b.b.at(task) >= 0 {
				b.puts(jobOf(task, 7, 5), api.ErrThere)
				b.look()
				b.run(task, 1)
			}
			b.stop("a task that has a job")
		}
	}
}

func TestP1902PutInHighMode(t *testing.T) {
	b := newBoth(t, mixed()...)
	for range 2 {
		b.rise()
		for task, x := range mixed() {
			if x.Hi {
				b.puts(jobOf(task, 3, 4), api.OK)
			} else {
				b.puts(jobOf(task, 3, 4), api.ErrDropped)
				b.puts(jobOf(task, 3, 4), api.ErrDropped)
			}
			b.look()
		}
		// In low mode all may come again.
		b.clear()
		for task := range mixed() {
			b.puts(jobOf(task, 3, 4), api.OK)
		}
		b.look()
		b.missed(maxTick)
		b.look()
		b.rise()
		b.fall()
		for task := range mixed() {
			b.puts(jobOf(task, 3, 4), api.OK)
		}
		b.look()
		b.clear()
		b.stop("in high mode")
	}
}

func TestP1902PutWhereMoreThanOneHolds(t *testing.T) {
	for task := range maxTasks {
		// What may not be is told ahead of that there is one.
		b := with(t, mixed(), jobOf(task, 1, 4))
		for _, j := range wrongJobs(task) {
			b.puts(j, api.ErrArg)
		}
		b.look()
		// And ahead of that it would be dropped.
		b = newBoth(t, mixed()...)
		b.rise()
		for _, j := range wrongJobs(task) {
			b.puts(j, api.ErrArg)
		}
		b.look()
		b.stop("more than one")
	}
	// High ones that are there are told as such in high mode, too.
	b := with(t, mixed(), jobOf(0, 1, 4), jobOf(2, 1, 4))
	b.rise()
	b.puts(jobOf(0, 1, 4), api.ErrThere)
	b.puts(jobOf(2, 1, 4), api.ErrThere)
	b.puts(jobOf(4, 1, 4), api.OK)
	b.look()
	b.stop("more than one")
}

// firstIs holds a Table to which is first.
func firstIs(t *testing.T, what string, c *tasks.Table, task, due int) {
	t.Helper()
	if n, at, ok := c.First(); n != task || at != due || !ok {
		t.Errorf("%s: First: %d, %d, %v, not %d, %d", what, n, at, ok, task, due)
	}
}

func TestP1902FirstOfOne(t *testing.T) {
	for _, x := range []conf.Task{high(), wide(), level(), low(), short(), long()} {
		for _, arrived := range []int{0, 1, 7, 1 << 32, maxTick - 1, maxTick} {
			for place := range 3 {
				l := slices.Repeat([]conf.Task{low()}, 3)
				l[place] = x
				b := with(t, l, jobOf(place, arrived, 5))
				firstIs(t, "in low mode", b.c, place, arrived+x.V)
				b.rise()
				b.look()
				if x.Hi {
					firstIs(t, "in high mode", b.c, place, arrived+x.D)
					b.fall()
					firstIs(t, "in high mode still", b.c, place, arrived+x.D)
				}
				b.clear()
				b.look()
				b.puts(jobOf(place, arrived, 5), api.OK)
				firstIs(t, "in low mode again", b.c, place, arrived+x.V)
				if x.Hi {
					b.clear()
					b.rise()
					b.puts(jobOf(place, arrived, 5), api.OK)
					firstIs(t, "put in high mode", b.c, place, arrived+x.D)
				}
				b.stop("one")
			}
		}
	}
}

func TestP1902FirstByBothModes(t *testing.T) {
	// In low mode 1 is due ahead of 0, in high mode behind it.
	l := []conf.Task{{Hi: true, T: 50, D: 12, V: 10, Lo: 2, Top: 4}, {Hi: true, T: 50, D: 40, V: 5, Lo: 2, Top: 4}, low()}
	b := with(t, l, jobOf(0, 20, 4), jobOf(1, 20, 4), jobOf(2, 30, 2))
	firstIs(t, "low", b.c, 1, 25)
	b.rise()
	firstIs(t, "high", b.c, 0, 32)
	b.run(0, 4)
	firstIs(t, "high", b.c, 1, 60)
	b.puts(jobOf(0, 48, 4), api.OK)
	firstIs(t, "one of the same time", b.c, 0, 60)
	b.missed(60)
	b.fall()
	b.puts(jobOf(0, 60, 4), api.OK)
	b.puts(jobOf(1, 60, 4), api.OK)
	firstIs(t, "low again", b.c, 1, 65)
	b.look()
	b.stop("both modes")
}

func TestP1902FirstOfOneTime(t *testing.T) {
	// All are due at 100 in low mode, and at 200 in high mode, put in each order of two.
	l := slices.Repeat([]conf.Task{{Hi: true, T: 200, D: 150, V: 50, Lo: 2, Top: 4}}, maxTasks)
	for from := range maxTasks {
		for step := 1; step < maxTasks; step += 4 {
			b := newBoth(t, l...)
			for i := range maxTasks {
				b.puts(jobOf((from+i*step)%maxTasks, 50, 2), api.OK)
				b.look()
			}
			firstIs(t, "of one time", b.c, 0, 100)
			b.run(0, 2)
			firstIs(t, "0 rises", b.c, 1, 100)
			b.run(3, 2)
			b.rise()
			for task := 1; task < maxTasks; task++ {
				if task == 3 {
					continue
				}
				firstIs(t, "those that are left", b.c, task, 200)
				b.run(task, 2)
				b.look()
			}
			b.look()
			b.stop("one time")
		}
	}
}

func TestP1902FirstBehindEachCallThatTakesAway(t *testing.T) {
	jobs := []tasks.Job{jobOf(0, 9, 1), jobOf(1, 9, 9), jobOf(2, 9, 1), jobOf(3, 9, 9), jobOf(4, 9, 1), jobOf(5, 9, 1)}
	rows := map[string]func(b *both){
		"ended":   func(b *both) { b.run(3, 1); b.run(2, 1); b.run(0, 1) },
		"over":    func(b *both) { b.run(1, 3); b.run(3, 1) },
		"rise":    func(b *both) { b.rise() },
		"missed":  func(b *both) { b.missed(10) },
		"missed2": func(b *both) { b.missed(21) },
		"missed3": func(b *both) { b.rise(); b.missed(24); b.missed(39) },
		"clear":   func(b *both) { b.clear() },
	}
	for what, call := range rows {
		b := with(t, mixed(), jobs...)
		call(b)
		b.look()
		for task := range maxTasks {
			b.put(jobOf(task, 2*task, 3))
			b.look()
		}
		b.stop(what)
	}
}

func TestP1902FirstOfTheGreatestTimes(t *testing.T) {
	l := []conf.Task{long(), {T: maxPeriod, D: maxPeriod, V: maxPeriod, Lo: 1, Top: 1}, high(), long()}
	b := with(t, l, jobOf(1, maxTick, 1), jobOf(0, maxTick, 100), jobOf(2, 0, maxWork), jobOf(3, maxTick, maxWork))
	firstIs(t, "of the least one", b.c, 2, 8)
	b.missed(15)
	firstIs(t, "of the greatest ones, low", b.c, 0, maxTick+maxPeriod-1)
	b.rise()
	firstIs(t, "of the greatest ones, high", b.c, 0, maxTick+maxPeriod)
	b.missed(maxTick + maxPeriod - 1)
	b.look()
	b.missed(maxTick + maxPeriod)
	b.look()
	b.stop("the greatest times")
}

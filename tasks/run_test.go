package tasks_test

import (
	"slices"
	"testing"

	"parclose/api"
	"parclose/conf"
	"parclose/tasks"
)

// runs holds one Run after the other to its outcome, besides.
func (b *both) runs(task int, outcomes ...int) {
	b.t.Helper()
	for i, want := range outcomes {
		if _, got := newPlainOf(b.b).run(task); got != want {
			b.t.Fatalf("the plain one answers %d of Run(%d), not %d", got, task, want)
		}
		b.run(task, 1)
		b.look()
		if b.t.Failed() {
			b.t.Fatalf("the %dth tick of task %d", i+1, task)
		}
	}
}

// gone holds a task's job to be there no more, and another one to come.
func (b *both) gone(task int) {
	b.t.Helper()
	if _, ok := b.c.Get(task); ok || b.b.at(task) >= 0 {
		b.t.Errorf("the job of %d is there still", task)
	}
	b.runs(task, tasks.Nobody, tasks.Nobody)
	b.puts(jobOf(task, 77, 2, opsOf(70, 2)...), api.OK)
	b.runs(task, tasks.Going)
	b.look()
}

func TestP1903RunOfNobody(t *testing.T) {
	for n := range maxTasks + 1 {
		for _, rise := range []bool{false, true} {
			b := newBoth(t, mixed()[:n]...)
			if rise {
				b.rise()
			}
			for _, task := range append([]int{n, n + 1}, numbers...) {
				b.runs(task, tasks.Nobody, tasks.Nobody)
			}
			b.lookFar()
			// With one job there, just that one is one.
			if n > 0 {
				b.puts(jobOf(0, 0, 3, opsOf(0, 3)...), api.OK)
				for _, task := range numbers {
					if task != 0 {
						b.runs(task, tasks.Nobody)
					}
				}
				b.lookFar()
				b.run(0, 1)
			}
			b.stop("nobody")
		}
	}
}

func TestP1903EachOutcomeInLowMode(t *testing.T) {
	const g, e, o, r = tasks.Going, tasks.Ended, tasks.Over, tasks.Rises
	rows := []struct {
		what string
		task conf.Task
		work int
		want []int
	}{
		{"low, of one tick", low(), 1, []int{e}},
		{"low, below Lo", low(), 2, []int{g, e}},
		{"low, Lo", low(), 3, []int{g, g, e}},
		{"low, above Lo", low(), 4, []int{g, g, o}},
		{"low, far above Lo", low(), maxWork, []int{g, g, o}},
		{"short, Lo", short(), 1, []int{e}},
		{"short, above Lo", short(), 2, []int{o}},
		{"high, of one tick", high(), 1, []int{e}},
		{"high, below Lo", high(), 2, []int{g, e}},
		{"high, Lo", high(), 3, []int{g, g, e}},
		{"high, as much as Rises leaves", high(), 4, []int{g, g, r, e}},
		{"high, Top", high(), 6, []int{g, g, r, r, r, e}},
		{"high, above Top", high(), 8, []int{g, g, r, r, r, r, r, e}},
		{"wide, Lo", wide(), 1, []int{e}},
		{"wide, above Lo", wide(), 2, []int{r, e}},
		{"level, Lo", level(), 4, []int{g, g, g, e}},
		{"level, above Lo", level(), 5, []int{g, g, g, o}},
		{"level, far above Lo", level(), maxWork, []int{g, g, g, o}},
	}
	for _, row := range rows {
		for place := range 3 {
			l := []conf.Task{high(), low(), level()}
			l[place] = row.task
			b := newBoth(t, l...)
			for i := range l {
				b.puts(jobOf(i, 5+i, row.work, opsOf(10*i, 9)...), api.OK)
			}
			b.runs(place, row.want...)
			// Another one may come, if its budget is more than a tick.
			if row.task.Lo > 1 {
				b.gone(place)
			}
			b.stop(row.what)
		}
	}
}

func TestP1903EachOutcomeInHighMode(t *testing.T) {
	const g, e, o = tasks.Going, tasks.Ended, tasks.Over
	rows := []struct {
		what string
		task conf.Task
		work int
		want []int
	}{
		{"high, of one tick", high(), 1, []int{e}},
		{"high, Lo", high(), 3, []int{g, g, e}},
		{"high, above Lo", high(), 4, []int{g, g, g, e}},
		{"high, below Top", high(), 5, []int{g, g, g, g, e}},
		{"high, Top", high(), 6, []int{g, g, g, g, g, e}},
		{"high, above Top", high(), 7, []int{g, g, g, g, g, o}},
		{"high, far above Top", high(), maxWork, []int{g, g, g, g, g, o}},
		{"level, Lo", level(), 4, []int{g, g, g, e}},
		{"level, above Lo", level(), 5, []int{g, g, g, o}},
		{"wide, Top", wide(), 30, append(slices.Repeat([]int{g}, 29), e)},
		{"wide, above Top", wide(), 31, append(slices.Repeat([]int{g}, 29), o)},
	}
	for _, row := range rows {
		for place := range 3 {
			l := []conf.Task{high(), wide(), level()}
			l[place] = row.task
			b := newBoth(t, l...)
			b.rise()
			for i := range l {
				b.puts(jobOf(i, 5+i, row.work, opsOf(10*i, 9)...), api.OK)
			}
			b.runs(place, row.want...)
			b.gone(place)
			b.stop(row.what)
		}
	}
}

func TestP1903OneThatRisesGoesOn(t *testing.T) {
	const g, e, o, r, n = tasks.Going, tasks.Ended, tasks.Over, tasks.Rises, tasks.Nobody
	rows := []struct {
		what        string
		task        conf.Task
		work        int
		ahead, then []int
	}{
		{"up to its work", high(), 4, []int{g, g, r}, []int{e, n}},
		{"up to below Top", high(), 5, []int{g, g, r}, []int{g, e, n}},
		{"up to Top", high(), 6, []int{g, g, r}, []int{g, g, e, n}},
		{"above Top", high(), 7, []int{g, g, r}, []int{g, g, o, n}},
		{"far above Top", high(), maxWork, []int{g, g, r}, []int{g, g, o, n}},
		{"told to rise ahead", high(), 7, []int{g, g}, []int{g, g, g, o, n}},
		{"told to rise late", high(), 7, []int{g, g, r, r}, []int{g, o, n}},
		{"told to rise just below Top", high(), 7, []int{g, g, r, r, r}, []int{o, n}},
		{"told to rise at Top", high(), 9, []int{g, g, r, r, r, r}, []int{o, n}},
		{"told to rise above Top", high(), 9, []int{g, g, r, r, r, r, r}, []int{o, n}},
		{"told to rise above Top, at its last tick", high(), 8, []int{g, g, r, r, r, r, r}, []int{e, n}},
		{"of one tick", wide(), 2, []int{r}, []int{e, n}},
		{"of one tick up to Top", wide(), 31, []int{r}, append(slices.Repeat([]int{g}, 28), o, n)},
		{"with nothing more then", level(), 5, []int{g, g, g}, []int{o, n}},
	}
	for _, row := range rows {
		b := with(t, []conf.Task{low(), row.task, high()}, jobOf(0, 1, 3), jobOf(1, 2, row.work, opsOf(0, 5)...), jobOf(2, 0, 9))
		b.runs(1, row.ahead...)
		// It is there still, and the mode is not changed by it alone.
		if j, ok := b.c.Get(1); !ok || j.Done != len(row.ahead) || b.c.High() {
			t.Errorf("%s: Get: %v, %v; high: %v", row.what, j, ok, b.c.High())
		}
		b.rise()
		b.look()
		b.runs(1, row.then...)
		b.runs(2, g, g, g, g, g, o)
		b.stop(row.what)
	}
}

func TestP1903OpsTickByTick(t *testing.T) {
	for n := range maxOps + 1 {
		for _, rise := range []bool{false, true} {
			// Its budgets are more than there are Ops.
			b := newBoth(t, low(), long())
			if rise {
				b.rise()
			}
			ops := opsOf(1000, n)
			b.puts(jobOf(1, 0, 90, ops...), api.OK)
			for i := range 68 {
				want := tasks.Op{}
				if i < n {
					want = ops[i]
				}
				if op, outcome := b.c.Run(1); op != want || outcome != tasks.Going {
					t.Errorf("%d Ops, tick %d: %v, %d, not %v", n, i, op, outcome, want)
				}
				b.b.run(1)
			}
			b.look()
			b.stop("Ops")
		}
	}
}

func TestP1903OpsOfTheLastTick(t *testing.T) {
	// The Op of a tick at which it ends, is over, or rises, is told as any.
	for _, n := range []int{0, 1, 2, 3, 4, maxOps} {
		ops := opsOf(20, n)
		for work := 1; work <= 4; work++ {
			for task, x := range []conf.Task{low(), high(), level(), short()} {
				b := with(t, []conf.Task{low(), high(), level(), short()}, jobOf(task, 3, work, ops...))
				for i := range min(work, x.Lo) {
					want := tasks.Op{}
					if i < n {
						want = ops[i]
					}
					if op, _ := b.c.Run(task); op != want {
						t.Errorf("%d Ops, work %d, task %d, tick %d: %v, not %v", n, work, task, i, op, want)
					}
					b.b.run(task)
				}
				b.look()
				b.stop("the last tick")
			}
		}
	}
	// Nor does the zero Op in the midst end them.
	b := with(t, []conf.Task{long()}, jobOf(0, 0, 9, tasks.Op{}, tasks.Op{Kind: 1}, tasks.Op{}, tasks.Op{}, tasks.Op{A: 1}, tasks.Op{B: 1}))
	b.run(0, 9)
	b.stop("zero Ops")
}

func TestP1903JobsRunByTurns(t *testing.T) {
	b := newBoth(t, mixed()...)
	for task := range maxTasks {
		b.puts(jobOf(task, task, 2*task+2, opsOf(100*task, task+1)...), api.OK)
	}
	for range 14 {
		for task := range maxTasks {
			b.run(task, 1)
			b.look()
		}
		b.stop("by turns")
	}
	b.rise()
	for range 20 {
		for task := range maxTasks {
			b.run(task, 1)
			b.look()
		}
		b.stop("by turns, high")
	}
}

func TestP1903OneOfAllItsLimits(t *testing.T) {
	// As much as a budget may be: both in low mode and in high mode.
	top := conf.Task{Hi: true, T: maxPeriod, D: maxPeriod, V: maxPeriod, Lo: maxPeriod - 1, Top: maxPeriod}
	for work, want := range map[int]int{maxPeriod: tasks.Ended, maxPeriod + 1: tasks.Over, maxWork: tasks.Over} {
		b := with(t, []conf.Task{top, mixed()[5]}, jobOf(0, maxTick, work, opsOf(0, maxOps)...), jobOf(1, maxTick, work))
		b.run(1, maxPeriod-1)
		b.look()
		b.runs(1, want, tasks.Nobody)
		b.run(0, maxPeriod-2)
		b.look()
		b.runs(0, tasks.Rises)
		b.rise()
		b.runs(0, want, tasks.Nobody)
		b.stop("the greatest budgets")
	}
}

// The chapter's example.
func TestP1903TheExample(t *testing.T) {
	c := tasks.New(conf.Task{Hi: true, T: 10, D: 8, V: 4, Lo: 1, Top: 3})
	if err := c.Put(jobOf(0, 0, 2)); err != api.OK {
		t.Fatal(err)
	}
	if op, outcome := c.Run(0); op != (tasks.Op{}) || outcome != tasks.Rises {
		t.Error(op, outcome)
	}
	if l := c.Rise(); len(l) != 0 || !c.High() {
		t.Error(l)
	}
	if op, outcome := c.Run(0); op != (tasks.Op{}) || outcome != tasks.Ended {
		t.Error(op, outcome)
	}
	if !c.Fall() || c.High() || c.Len() != 0 {
		t.Error("it does not fall")
	}
}

package tasks_test

import (
	"math/rand/v2"
	"testing"

	"parclose/conf"
	"parclose/tasks"
)

// drawing: what a row of calls is drawn by.
type drawing struct {
	*both
	r *rand.Rand
	// now: about which ticks are drawn.
	now int
	// fast: is Run drawn more often than all the others?
	fast bool
}

// drawnTask: one that is right, of short times most often.
func drawnTask(r *rand.Rand) conf.Task {
	most := 16
	if r.IntN(6) == 0 {
		most = maxPeriod
	}
	period := 1 + r.IntN(most)
	deadline := 1 + r.IntN(period)
	budget := 1 + r.IntN(min(deadline, 1+r.IntN(8)))
	if r.IntN(5) < 2 {
		return conf.Task{T: period, D: deadline, V: deadline, Lo: budget, Top: budget}
	}
	top := budget + r.IntN(min(deadline-budget, 6)+1)
	return conf.Task{Hi: true, T: period, D: deadline, V: budget + r.IntN(deadline-budget+1), Lo: budget, Top: top}
}

// newDrawing: of so many drawn tasks, at 0, somewhere, or near MaxTick.
func newDrawing(t *testing.T, count int, seed uint64) *drawing {
	r := rand.New(rand.NewPCG(seed, uint64(count)))
	var l []conf.Task
	for range count {
		l = append(l, drawnTask(r))
	}
	begin := []int{0, r.IntN(maxTick), maxTick - 300}[r.IntN(3)]
	return &drawing{newBoth(t, l...), r, begin, r.IntN(2) == 0}
}

// task: most often one there is.
func (d *drawing) task() int {
	if d.r.IntN(40) == 0 {
		return numbers[d.r.IntN(len(numbers))]
	}
	if d.r.IntN(12) == 0 {
		return d.r.IntN(maxTasks+2) - 1
	}
	return d.r.IntN(max(len(d.b.tasks), 1))
}

// work: about a task's budgets.
func (d *drawing) work(task int) int {
	if d.r.IntN(20) == 0 {
		return numbers[d.r.IntN(len(numbers))]
	}
	if task < 0 || task >= len(d.b.tasks) {
		return 1
	}
	x := d.b.tasks[task]
	return []int{x.Lo, x.Top, x.Lo + d.r.IntN(x.Top-x.Lo+1), 1 + d.r.IntN(x.Top), x.Top + 1, x.Top + d.r.IntN(5)}[d.r.IntN(6)]
}

// job: most often one there may be.
func (d *drawing) job() tasks.Job {
	task := d.task()
	j := tasks.Job{Task: task, Arrived: d.now, Work: d.work(task)}
	for range d.r.IntN(8) {
		j.Ops = append(j.Ops, tasks.Op{Kind: d.r.IntN(4), A: d.r.IntN(9) - 4, B: d.r.IntN(100)})
	}
	switch d.r.IntN(30) {
	case 0:
		j.Done = numbers[d.r.IntN(len(numbers))]
	case 1:
		j.Arrived = numbers[d.r.IntN(len(numbers))]
	case 2:
		j.Ops = make([]tasks.Op, maxOps-1+d.r.IntN(3))
	case 3:
		j.Arrived = max(0, d.now-d.r.IntN(20))
	}
	return j
}

// tick: about now; or by when a job has to be done, and next to that.
func (d *drawing) tick() int {
	switch d.r.IntN(8) {
	case 0:
		return numbers[d.r.IntN(len(numbers)/2)]
	case 1, 2:
		if n := len(d.b.jobs); n > 0 {
			j := d.b.jobs[d.r.IntN(n)]
			return j.arrived + d.b.tasks[j.task].D + d.r.IntN(3) - 1
		}
	}
	return d.now
}

// modeNow: 0 in low mode, 1 in high mode.
func (d *drawing) modeNow() int {
	if d.c.High() {
		return 1
	}
	return 0
}

// mode: a call that may change it.
func (d *drawing) mode() {
	switch d.r.IntN(8) {
	case 0, 1:
		d.rise()
	case 2:
		d.clear()
	default:
		d.fall()
	}
}

// runSome: what is first, or any.
func (d *drawing) runSome() {
	task, _, ok := d.c.First()
	if !ok || d.r.IntN(3) == 0 {
		task = d.task()
	}
	d.run(task, 1)
	if d.r.IntN(4) == 0 {
		// As it goes where a job has spent what it has in low mode.
		if at := d.b.at(task); at >= 0 && d.b.jobs[at].ran >= d.b.tasks[task].Lo {
			d.rise()
		}
	}
}

// call: Put and Run most often.
func (d *drawing) call() {
	d.now += d.r.IntN(3)
	if d.now > maxTick || d.r.IntN(60) == 0 {
		d.now -= d.r.IntN(200)
	}
	d.now = max(d.now, 0)
	kind := d.r.IntN(20)
	if d.fast && d.r.IntN(2) == 0 {
		kind = 19
	}
	switch {
	case kind == 0:
		d.mode()
	case kind < 3:
		d.missed(d.tick())
	case kind < 11:
		d.put(d.job())
	default:
		d.runSome()
	}
}

func TestP1904DrawnRowsOfCalls(t *testing.T) {
	// Behind how many calls were there more than two jobs, in low mode and in high mode?
	var full [2]int
	for count := range maxTasks + 1 {
		for seed := range uint64(150) {
			d := newDrawing(t, count, seed)
			for range 200 {
				d.call()
				d.look()
				d.stop("drawn calls")
				if len(d.b.jobs) > 2 {
					full[d.modeNow()]++
				}
			}
			d.lookFar()
			d.stop("drawn calls")
		}
	}
	if full[0] < 1000 || full[1] < 1000 {
		t.Errorf("just behind %v calls there were", full)
	}
}

func TestP1903DrawnOutcomes(t *testing.T) {
	// Each outcome comes often, in each mode, but Rises in high mode, that never does.
	var met [2][5]int
	for count := 1; count <= maxTasks; count++ {
		for seed := range uint64(60) {
			d := newDrawing(t, count, 2000+seed)
			for range 200 {
				d.call()
				task, mode := d.task(), d.modeNow()
				was, _ := d.c.Get(task)
				op, outcome := d.c.Run(task)
				if wantOp, want := d.b.run(task); op != wantOp || outcome != want {
					t.Fatalf("Run(%d): %v, %d, not %v, %d", task, op, outcome, wantOp, want)
				}
				met[mode][outcome]++
				// By what is told alone: it is there, just if it goes on, and one more tick of it is done.
				is, ok := d.c.Get(task)
				if stays := outcome == tasks.Going || outcome == tasks.Rises; ok != stays || ok && is.Done != was.Done+1 {
					t.Fatalf("Run(%d): %d; then %v, %v", task, outcome, is, ok)
				}
			}
			d.look()
			d.stop("drawn outcomes")
		}
	}
	for mode, l := range met {
		for outcome, n := range l {
			if never := mode == 1 && outcome == tasks.Rises; never != (n == 0) || !never && n < 50 {
				t.Errorf("mode %d, outcome %d: %d times", mode, outcome, n)
			}
		}
	}
}

// What a row of calls is made of, each by a number.
func (b *both) byNumber(call, now int) {
	switch call {
	case 0:
		b.put(jobOf(0, now, 2))
	case 1:
		b.put(jobOf(1, now, 3, opsOf(now, 2)...))
	case 2:
		b.run(0, 1)
	case 3:
		b.run(1, 1)
	case 4:
		b.rise()
	case 5:
		b.fall()
	case 6:
		b.missed(now)
	default:
		b.clear()
	}
}

func TestP1904AllShortRowsOfCalls(t *testing.T) {
	const calls, steps = 8, 5
	rows := 1
	for range steps {
		rows *= calls
	}
	lists := [][]conf.Task{
		{{T: 3, D: 3, V: 3, Lo: 2, Top: 2}, {Hi: true, T: 4, D: 4, V: 2, Lo: 1, Top: 3}},
		{{Hi: true, T: 4, D: 3, V: 3, Lo: 1, Top: 2}, {Hi: true, T: 3, D: 3, V: 2, Lo: 2, Top: 2}},
	}
	for _, l := range lists {
		// Behind none, and behind some calls that put jobs in.
		for _, ahead := range [][]int{nil, {0, 1}, {4, 1}} {
			for row := range rows {
				b := newBoth(t, l...)
				for _, call := range ahead {
					b.byNumber(call, 0)
				}
				// Each at a tick of its own.
				for now := range steps {
					b.byNumber(row%calls, now)
					row /= calls
				}
				b.look()
				b.stop("a short row")
			}
		}
	}
}

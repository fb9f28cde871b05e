// The tests are of a package of their own, as all that they hold a Table to is told by its calls.
package tasks_test

import (
	"math"
	"slices"
	"testing"

	"parclose/api"
	"parclose/conf"
	"parclose/tasks"
)

// Of the document's words.
const (
	maxTasks  = 6
	maxPeriod = 1000
	maxOps    = 64
	maxWork   = 1 << 20
	maxTick   = 1 << 62
)

// numbers: some about which an answer may turn, be they tasks', ticks, or works.
var numbers = []int{
	math.MinInt, math.MinInt + 1, -maxTick - 1, -maxTick, -maxWork, -1000, -64, -7, -6, -2, -1, 0, 1, 2, 3, 4, 5, 6, 7, 8, 63, 64, 65, 255, 256,
	999, 1000, 1001, maxWork - 1, maxWork, maxWork + 1, 1 << 31, 1 << 32, 1<<32 + 1, maxTick - 1000, maxTick - 1, maxTick, maxTick + 1, maxTick + 1000, math.MaxInt - 1, math.MaxInt,
}

// high: a task whose times are all apart. wide: one with much more in high mode. level: one with nothing more then. low: one that is not Hi.
func high() conf.Task  { return conf.Task{Hi: true, T: 20, D: 15, V: 8, Lo: 3, Top: 6} }
func wide() conf.Task  { return conf.Task{Hi: true, T: 40, D: 30, V: 5, Lo: 1, Top: 30} }
func level() conf.Task { return conf.Task{Hi: true, T: 20, D: 15, V: 9, Lo: 4, Top: 4} }
func low() conf.Task   { return conf.Task{T: 20, D: 12, V: 12, Lo: 3, Top: 3} }
func short() conf.Task { return conf.Task{T: 2, D: 1, V: 1, Lo: 1, Top: 1} }
func long() conf.Task {
	return conf.Task{Hi: true, T: maxPeriod, D: maxPeriod, V: maxPeriod - 1, Lo: 70, Top: 90}
}

// mixed: all the tasks there may be, high and low ones by turns.
func mixed() []conf.Task {
	return []conf.Task{high(), low(), wide(), short(), level(), {T: maxPeriod, D: maxPeriod, V: maxPeriod, Lo: maxPeriod, Top: maxPeriod}}
}

// opsOf: so many, no two of them alike, and none the zero one.
func opsOf(from, n int) []tasks.Op {
	var l []tasks.Op
	for i := range n {
		l = append(l, tasks.Op{Kind: i % 5, A: from + i + 1, B: -i})
	}
	return l
}

// plainJob: one that is there, as it was put, and how many ticks it ran.
type plainJob struct {
	task, arrived, work, ran int
	ops                      []tasks.Op
}

// plain: what a Table is held against: its tasks, and the jobs that are there, as they came.
type plain struct {
	tasks []conf.Task
	jobs  []plainJob
	rose  bool
}

func newPlain(l ...conf.Task) *plain { return &plain{tasks: slices.Clone(l)} }

// at: where the job of a task is; -1, if there is none.
func (b *plain) at(task int) int {
	return slices.IndexFunc(b.jobs, func(j plainJob) bool { return j.task == task })
}

func (b *plain) put(j tasks.Job) api.Errno {
	isTask := 0 <= j.Task && j.Task < len(b.tasks)
	inTime := 0 <= j.Arrived && j.Arrived <= maxTick
	hasWork := 1 <= j.Work && j.Work <= maxWork
	if !isTask || !inTime || !hasWork || j.Done != 0 || len(j.Ops) > maxOps {
		return api.ErrArg
	}
	if b.at(j.Task) >= 0 {
		return api.ErrThere
	}
	if b.rose && !b.tasks[j.Task].Hi {
		return api.ErrDropped
	}
	b.jobs = append(b.jobs, plainJob{j.Task, j.Arrived, j.Work, 0, slices.Clone(j.Ops)})
	return api.OK
}

func (b *plain) due(j plainJob) int {
	if b.rose {
		return j.arrived + b.tasks[j.task].D
	}
	return j.arrived + b.tasks[j.task].V
}

func (b *plain) first() (int, int, bool) {
	if len(b.jobs) == 0 {
		return 0, 0, false
	}
	first := slices.MinFunc(b.jobs, func(j, k plainJob) int {
		if d, e := b.due(j), b.due(k); d < e || d == e && j.task < k.task {
			return -1
		}
		return 1
	})
	return first.task, b.due(first), true
}

func (b *plain) run(task int) (tasks.Op, int) {
	at := b.at(task)
	if at < 0 {
		return tasks.Op{}, 4
	}
	op := tasks.Op{}
	if j := b.jobs[at]; j.ran < len(j.ops) {
		op = j.ops[j.ran]
	}
	b.jobs[at].ran++
	j, x := b.jobs[at], b.tasks[task]
	budget := x.Lo
	if b.rose {
		budget = x.Top
	}
	ended, spent := j.ran == j.work, j.ran >= budget
	if ended {
		b.jobs = slices.Delete(b.jobs, at, at+1)
		return op, 1
	}
	if spent && !b.rose && x.Hi && x.Top > x.Lo {
		return op, 3
	}
	if spent {
		b.jobs = slices.Delete(b.jobs, at, at+1)
		return op, 2
	}
	return op, 0
}

// drop: the tasks of jobs that are gone, by numbers.
func (b *plain) drop(gone func(plainJob) bool) []int {
	var l []int
	for _, j := range b.jobs {
		if gone(j) {
			l = append(l, j.task)
		}
	}
	b.jobs = slices.DeleteFunc(b.jobs, gone)
	slices.Sort(l)
	return l
}

func (b *plain) rise() []int {
	b.rose = true
	return b.drop(func(j plainJob) bool { return !b.tasks[j.task].Hi })
}

func (b *plain) fall() bool {
	falls := b.rose && len(b.jobs) == 0
	if falls {
		b.rose = false
	}
	return falls
}

func (b *plain) missed(now int) []int {
	return b.drop(func(j plainJob) bool { return now >= j.arrived+b.tasks[j.task].D })
}

func (b *plain) get(task int) (tasks.Job, bool) {
	at := b.at(task)
	if at < 0 {
		return tasks.Job{}, false
	}
	j := b.jobs[at]
	return tasks.Job{Task: j.task, Arrived: j.arrived, Work: j.work, Done: j.ran, Ops: slices.Clone(j.ops)}, true
}

// both: a Table, and what it is held against. Each call is made of both.
type both struct {
	t *testing.T
	c *tasks.Table
	b *plain
}

// newBoth: of tasks that there may be.
func newBoth(t *testing.T, l ...conf.Task) *both {
	t.Helper()
	b := &both{t, tasks.New(l...), newPlain(l...)}
	if b.c == nil {
		t.Fatalf("New of %v: nil", l)
	}
	return b
}

func (b *both) put(j tasks.Job) {
	b.t.Helper()
	if err, want := b.c.Put(j), b.b.put(j); err != want {
		b.t.Errorf("Put(%v): %d, not %d", j, err, want)
	}
}

// run: as often as is asked for.
func (b *both) run(task, times int) {
	b.t.Helper()
	for range times {
		op, outcome := b.c.Run(task)
		if wantOp, want := b.b.run(task); op != wantOp || outcome != want {
			b.t.Errorf("Run(%d): %v, %d, not %v, %d", task, op, outcome, wantOp, want)
		}
	}
}

func (b *both) rise() {
	b.t.Helper()
	if l, want := b.c.Rise(), b.b.rise(); !slices.Equal(l, want) {
		b.t.Errorf("Rise: %v, not %v", l, want)
	}
}

func (b *both) fall() {
	b.t.Helper()
	if is, want := b.c.Fall(), b.b.fall(); is != want {
		b.t.Errorf("Fall: %v, not %v", is, want)
	}
}

func (b *both) missed(now int) {
	b.t.Helper()
	if l, want := b.c.Missed(now), b.b.missed(now); !slices.Equal(l, want) {
		b.t.Errorf("Missed(%d): %v, not %v", now, l, want)
	}
}

func (b *both) clear() {
	b.c.Clear()
	b.b.jobs, b.b.rose = nil, false
}

func sameJob(a, b tasks.Job) bool {
	return a.Task == b.Task && a.Arrived == b.Arrived && a.Work == b.Work && a.Done == b.Done && slices.Equal(a.Ops, b.Ops)
}

func (b *both) get(task int) {
	b.t.Helper()
	j, ok := b.c.Get(task)
	if want, is := b.b.get(task); !sameJob(j, want) || ok != is {
		b.t.Errorf("Get(%d): %v, %v, not %v, %v", task, j, ok, want, is)
	}
}

// look: all that a Table tells; twice, as that changes nothing.
func (b *both) look() {
	b.t.Helper()
	wantTask, wantDue, is := b.b.first()
	for range 2 {
		if task, due, ok := b.c.First(); task != wantTask || due != wantDue || ok != is {
			b.t.Errorf("First: %d, %d, %v, not %d, %d, %v", task, due, ok, wantTask, wantDue, is)
		}
		if is := b.c.High(); is != b.b.rose {
			b.t.Errorf("High: %v", is)
		}
		if n, want := b.c.Len(), len(b.b.jobs); n != want {
			b.t.Errorf("Len: %d, not %d", n, want)
		}
		for task := -1; task <= maxTasks; task++ {
			b.get(task)
		}
	}
}

// lookFar: the same, and a job and a tick of all the numbers that are none of a task.
func (b *both) lookFar() {
	b.t.Helper()
	b.look()
	for _, task := range numbers {
		b.get(task)
		if task < 0 || task >= len(b.b.tasks) {
			b.run(task, 1)
		}
	}
	b.look()
}

// stop ends a test that went wrong, so that it tells no more than what went wrong first.
func (b *both) stop(what string) {
	b.t.Helper()
	if b.t.Failed() {
		b.t.Fatalf("%s: tasks %v, jobs %v, high %v", what, b.b.tasks, b.b.jobs, b.b.rose)
	}
}

// jobOf: a job of a task.
func jobOf(task, arrived, work int, ops ...tasks.Op) tasks.Job {
	return tasks.Job{Task: task, Arrived: arrived, Work: work, Ops: ops}
}

// with: the same, with these put in.
func with(t *testing.T, l []conf.Task, jobs ...tasks.Job) *both {
	t.Helper()
	b := newBoth(t, l...)
	for _, j := range jobs {
		b.put(j)
	}
	b.look()
	b.stop("with these jobs")
	return b
}

func TestP1901TheNumbersOfItsErrors(t *testing.T) {
	if api.OK != 0 || api.ErrArg != 1 || api.ErrThere != 4 || api.ErrDropped != 42 {
		t.Error("errors are of other numbers than the document says")
	}
	if api.MaxTasks != maxTasks || api.MaxPeriod != maxPeriod || api.MaxOps != maxOps || api.MaxWork != maxWork || api.MaxTick != maxTick {
		t.Error("limits are other ones than the document says")
	}
	if tasks.Going != 0 || tasks.Ended != 1 || tasks.Over != 2 || tasks.Rises != 3 || tasks.Nobody != 4 {
		t.Error("outcomes are of other numbers than the document says")
	}
}

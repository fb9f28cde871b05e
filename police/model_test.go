// The tests are of a package of their own, as all that they hold a Police to is told by its calls.
package police_test

import (
	"math"
	"slices"
	"testing"

	"parclose/api"
	"parclose/conf"
	"parclose/police"
)

// Of the document's words.
const (
	maxTasks  = 6
	maxPeriod = 1000
	maxTick   = 1 << 62
)

// numbers: some about which an answer may turn, be they tasks' or ticks.
var numbers = []int{
	math.MinInt, math.MinInt + 1, -maxTick - 1, -maxTick, -1 << 32, -256, -7, -6, -2, -1, 0, 1, 2, 3, 4, 5, 6, 7, 8, 9, 10, 11, 12, 13,
	255, 256, 999, 1000, 1001, 1 << 16, 1 << 31, 1 << 32, 1<<32 + 1, maxTick - 1, maxTick, maxTick + 1, math.MaxInt - 1, math.MaxInt,
}

// high, low: tasks of a period.
func high(period int) conf.Task {
	return conf.Task{Hi: true, T: period, D: period, V: (period + 1) / 2, Lo: 1, Top: period}
}

func low(period int) conf.Task {
	return conf.Task{T: period, D: period, V: period, Lo: 1, Top: 1}
}

// other: of a high or low task, with all other fields apart, so that none of them is taken for T.
func other(hi bool, period int) conf.Task {
	if hi {
		return conf.Task{Hi: true, T: period, D: period - 1, V: period - 3, Lo: 2, Top: period - 2}
	}
	return conf.Task{T: period, D: period - 1, V: period - 1, Lo: 2, Top: 2}
}

// plain: what a Police is held against: its tasks, all ticks at which each was accepted, and whether low ones are dropped.
type plain struct {
	tasks []conf.Task
	taken [][]int
	drops bool
}

func newPlain(l ...conf.Task) *plain {
	return &plain{tasks: slices.Clone(l), taken: make([][]int, len(l))}
}

func (b *plain) has(task int) bool { return 0 <= task && task < len(b.tasks) }

func (b *plain) may(task, now int) api.Errno {
	if !b.has(task) || now < 0 || now > maxTick {
		return api.ErrArg
	}
	if b.dropped(task) {
		return api.ErrDropped
	}
	if last, ok := b.last(task); ok && now < last+b.tasks[task].T {
		return api.ErrSoon
	}
	return api.OK
}

func (b *plain) take(task, now int) api.Errno {
	err := b.may(task, now)
	if err == api.OK {
		b.taken[task] = append(b.taken[task], now)
	}
	return err
}

func (b *plain) last(task int) (int, bool) {
	if !b.has(task) || len(b.taken[task]) == 0 {
		return 0, false
	}
	return b.taken[task][len(b.taken[task])-1], true
}

func (b *plain) dropped(task int) bool { return b.has(task) && b.drops && !b.tasks[task].Hi }

// both: a Police, and what it is held against. Each call is made of both.
type both struct {
	t *testing.T
	p *police.Police
	b *plain
}

// newBoth: of tasks that there may be.
func newBoth(t *testing.T, l ...conf.Task) *both {
	t.Helper()
	b := &both{t, police.New(l...), newPlain(l...)}
	if b.p == nil {
		t.Fatalf("New of %v: nil", l)
	}
	return b
}

func (b *both) may(task, now int) {
	b.t.Helper()
	if err, want := b.p.May(task, now), b.b.may(task, now); err != want {
		b.t.Errorf("May(%d, %d): %d, not %d", task, now, err, want)
	}
}

func (b *both) take(task, now int) {
	b.t.Helper()
	if err, want := b.p.Take(task, now), b.b.take(task, now); err != want {
		b.t.Errorf("Take(%d, %d): %d, not %d", task, now, err, want)
	}
}

func (b *both) drop(high bool) {
	b.p.Drop(high)
	b.b.drops = high
}

func (b *both) last(task int) {
	b.t.Helper()
	n, ok := b.p.Last(task)
	if want, was := b.b.last(task); n != want || ok != was {
		b.t.Errorf("Last(%d): %d, %v, not %d, %v", task, n, ok, want, was)
	}
}

func (b *both) dropped(task int) {
	b.t.Helper()
	if is, want := b.p.Dropped(task), b.b.dropped(task); is != want {
		b.t.Errorf("Dropped(%d): %v, not %v", task, is, want)
	}
}

// look: all that a Police tells of each task and those next to them, and of arrivals next to where they would be taken; twice, as that changes nothing.
func (b *both) look() {
	b.t.Helper()
	for range 2 {
		for task := -1; task <= maxTasks; task++ {
			b.last(task)
			b.dropped(task)
			at, _ := b.b.last(task)
			if b.b.has(task) {
				at += b.b.tasks[task].T
			}
			for now := at - 1; now <= at+1; now++ {
				b.may(task, now)
			}
		}
	}
}

// lookFar: the same, and of all the numbers about which an answer may turn.
func (b *both) lookFar() {
	b.t.Helper()
	b.look()
	for _, task := range numbers {
		b.last(task)
		b.dropped(task)
		for _, now := range numbers {
			b.may(task, now)
		}
	}
}

// stop ends a test that went wrong, so that it tells no more than what went wrong first.
func (b *both) stop(what string) {
	b.t.Helper()
	if b.t.Failed() {
		b.t.Fatalf("%s: tasks %v, taken at %v, drops %v", what, b.b.tasks, b.b.taken, b.b.drops)
	}
}

// mixed: all the tasks there may be, high and low ones by turns.
func mixed() []conf.Task {
	return []conf.Task{other(true, 20), other(false, 7), high(1), low(1), high(maxPeriod), low(maxPeriod)}
}

func TestP1601TheNumbersOfItsErrors(t *testing.T) {
	if api.OK != 0 || api.ErrArg != 1 || api.ErrSoon != 40 || api.ErrDropped != 42 {
		t.Error("errors are of other numbers than the document says")
	}
	if api.MaxTasks != maxTasks || api.MaxPeriod != maxPeriod || api.MaxTick != maxTick {
		t.Error("limits are other ones than the document says")
	}
}

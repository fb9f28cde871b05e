package police_test

import (
	"slices"
	"testing"

	"parclose/api"
	"parclose/conf"
	"parclose/police"
)

// isNone holds a Police that is none, or has no tasks, to its answers, whatever it is handed.
func isNone(t *testing.T, what string, p *police.Police) {
	t.Helper()
	for _, task := range numbers {
		for _, now := range numbers {
			if err := p.May(task, now); err != api.ErrArg {
				t.Errorf("%s: May(%d, %d): %d", what, task, now, err)
			}
			if err := p.Take(task, now); err != api.ErrArg {
				t.Errorf("%s: Take(%d, %d): %d", what, task, now, err)
			}
		}
		if n, ok := p.Last(task); n != 0 || ok {
			t.Errorf("%s: Last(%d): %d, %v", what, task, n, ok)
		}
		if p.Dropped(task) {
			t.Errorf("%s: Dropped(%d): true", what, task)
		}
	}
	if t.Failed() {
		t.FailNow()
	}
}

// staysNone: the same, ahead of Drop and behind it.
func staysNone(t *testing.T, what string, p *police.Police) {
	t.Helper()
	isNone(t, what, p)
	for _, high := range []bool{true, true, false, false, true} {
		p.Drop(high)
		isNone(t, what, p)
	}
}

func TestP1601NilPolice(t *testing.T) {
	staysNone(t, "a nil Police", nil)
}

func TestP1601PolicesThatNewDidNotMake(t *testing.T) {
	var p police.Police
	made := police.New(mixed()...)
	made.Take(0, 5)
	made.Drop(true)
	*made = police.Police{}
	for what, a := range map[string]*police.Police{"the zero Police": &p, "a new Police": new(police.Police), "a literal": {}, "one that was made zero": made} {
		staysNone(t, what, a)
	}
}

func TestP1602NewOfNoTask(t *testing.T) {
	for what, l := range map[string][]conf.Task{"nil": nil, "none": {}, "none, with room": make([]conf.Task, 0, 9)} {
		p := police.New(l...)
		if p == nil {
			t.Fatalf("New of %s: nil", what)
		}
		staysNone(t, "one of "+what, p)
	}
	if p := police.New(); p == nil {
		t.Error("New(): nil")
	}
}

func TestP1602NewOfSoMany(t *testing.T) {
	for n := range maxTasks + 1 {
		for _, task := range []conf.Task{high(20), low(20), high(1), low(maxPeriod), other(true, 30), other(false, 30)} {
			b := newBoth(t, slices.Repeat([]conf.Task{task}, n)...)
			// None is accepted, or dropped, at first.
			b.lookFar()
			for i := -1; i <= maxTasks; i++ {
				b.take(i, 100+i)
			}
			b.lookFar()
			b.drop(true)
			b.lookFar()
			b.stop("New")
		}
	}
	for _, n := range []int{maxTasks + 1, maxTasks + 2, 2 * maxTasks, 255, 256, 257, 1 << 16} {
		for _, task := range []conf.Task{high(20), low(20)} {
			if p := police.New(slices.Repeat([]conf.Task{task}, n)...); p != nil {
				t.Errorf("New of %d tasks: not nil", n)
			}
		}
	}
}

// wrong: tasks that are not right, each by one thing.
func wrong() []conf.Task {
	return []conf.Task{
		{}, {Hi: true}, {T: -1}, {Hi: true, T: 20, D: 15, V: 2, Lo: 3, Top: 6},
		low(maxPeriod + 1), high(maxPeriod + 1), high(0), low(0), high(-5), low(-5),
		{T: 20, D: 21, V: 21, Lo: 3, Top: 3}, {T: 20, D: 15, V: 14, Lo: 3, Top: 3}, {T: 20, D: 15, V: 15, Lo: 3, Top: 4}, {T: 20, D: 15, V: 15, Lo: 0, Top: 0},
		{Hi: true, T: 20, D: 15, V: 16, Lo: 3, Top: 6}, {Hi: true, T: 20, D: 15, V: 8, Lo: 3, Top: 2}, {Hi: true, T: 20, D: 15, V: 8, Lo: 3, Top: 16},
		{Hi: true, T: 20, D: 15, V: 8, Lo: 0, Top: 6}, {Hi: true, T: maxTick, D: 15, V: 8, Lo: 3, Top: 6},
	}
}

func TestP1602NewOfOneThatIsNotRight(t *testing.T) {
	for _, bad := range wrong() {
		if bad.Right() {
			t.Fatalf("%v is right", bad)
		}
		for n := 1; n <= maxTasks+2; n++ {
			for at := range n {
				l := slices.Repeat([]conf.Task{high(20), low(30)}, n)[:n]
				l[at] = bad
				if p := police.New(l...); p != nil {
					t.Errorf("New of %d tasks, with %v at %d: not nil", n, bad, at)
				}
			}
		}
	}
	// What New makes of no good is as any nil Police.
	staysNone(t, "what New tells of one that is not right", police.New(conf.Task{}))
	staysNone(t, "what New tells of too many", police.New(slices.Repeat([]conf.Task{low(5)}, maxTasks+1)...))
}

func TestP1601NewDoesNotHoldOnToItsList(t *testing.T) {
	for n := range maxTasks + 1 {
		room := append(mixed(), mixed()...)
		was := slices.Clone(room)
		l := room[:n]
		b := newBoth(t, l...)
		b.lookFar()
		for task := range n {
			b.take(task, 50)
		}
		b.drop(true)
		b.lookFar()
		if !slices.Equal(room, was) {
			t.Errorf("New of %d: the list, or what is behind it, is another one now", n)
		}
		// The list becomes another one: high tasks are low then, and of other periods.
		for i := range room {
			room[i] = conf.Task{Hi: !room[i].Hi, T: 3, D: 3, V: 3, Lo: 3, Top: 3}
		}
		b.lookFar()
		clear(room)
		b.lookFar()
		b.drop(false)
		for task := range n {
			b.take(task, 49+was[task].T)
			b.take(task, 50+was[task].T)
		}
		b.lookFar()
		b.stop("behind a change of the list")
	}
}

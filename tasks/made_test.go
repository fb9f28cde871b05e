package tasks_test

import (
	"slices"
	"testing"

	"parclose/api"
	"parclose/conf"
	"parclose/tasks"
)

// hasNone holds a Table that no job is in to its answers, of all numbers.
func hasNone(t *testing.T, what string, c *tasks.Table) {
	t.Helper()
	if task, due, ok := c.First(); task != 0 || due != 0 || ok {
		t.Errorf("%s: First: %d, %d, %v", what, task, due, ok)
	}
	if n := c.Len(); n != 0 {
		t.Errorf("%s: Len: %d", what, n)
	}
	for _, n := range numbers {
		if op, outcome := c.Run(n); op != (tasks.Op{}) || outcome != 4 {
			t.Errorf("%s: Run(%d): %v, %d", what, n, op, outcome)
		}
		if j, ok := c.Get(n); !sameJob(j, tasks.Job{}) || ok {
			t.Errorf("%s: Get(%d): %v, %v", what, n, j, ok)
		}
		if l := c.Missed(n); len(l) != 0 {
			t.Errorf("%s: Missed(%d): %v", what, n, l)
		}
	}
}

// takesNone: whatever it is handed, ErrArg is answered.
func takesNone(t *testing.T, what string, c *tasks.Table) {
	t.Helper()
	for _, n := range numbers {
		for _, j := range []tasks.Job{jobOf(n, 0, 1), jobOf(0, n, 1), jobOf(0, 0, n), {Work: 1, Done: n}, {Task: n, Arrived: n, Work: n, Done: n}, jobOf(n, 0, 1, opsOf(0, 3)...), jobOf(n, 0, 1, opsOf(0, maxOps+1)...)} {
			if err := c.Put(j); err != api.ErrArg {
				t.Errorf("%s: Put(%v): %d", what, j, err)
			}
		}
	}
	hasNone(t, what, c)
}

// isNone holds a Table that is none to its answers.
func isNone(t *testing.T, what string, c *tasks.Table) {
	t.Helper()
	takesNone(t, what, c)
	if l := c.Rise(); len(l) != 0 {
		t.Errorf("%s: Rise: %v", what, l)
	}
	if c.High() || c.Fall() || c.High() {
		t.Errorf("%s: High, or Fall: true", what)
	}
	c.Clear()
	if c.High() || c.Fall() {
		t.Errorf("%s: behind Clear: High, or Fall: true", what)
	}
	if t.Failed() {
		t.FailNow()
	}
}

func TestP1901NilTable(t *testing.T) {
	for range 2 {
		isNone(t, "a nil Table", nil)
	}
}

func TestP1901TablesThatNewDidNotMake(t *testing.T) {
	var c tasks.Table
	made := tasks.New(mixed()...)
	made.Put(jobOf(0, 5, 9))
	made.Put(jobOf(1, 5, 9))
	made.Run(0)
	made.Rise()
	*made = tasks.Table{}
	for what, a := range map[string]*tasks.Table{"the zero Table": &c, "a new Table": new(tasks.Table), "a literal": {}, "one that was made zero": made} {
		for range 3 {
			isNone(t, what, a)
		}
	}
}

func TestP1902NewOfNoTask(t *testing.T) {
	for what, l := range map[string][]conf.Task{"nil": nil, "none": {}, "none, with room": make([]conf.Task, 0, 9)} {
		c := tasks.New(l...)
		if c == nil {
			t.Fatalf("New of %s: nil", what)
		}
		for range 2 {
			takesNone(t, what, c)
			// Its mode is one of its own, without any tasks.
			if c.High() || c.Fall() {
				t.Errorf("%s: is high, or falls", what)
			}
			if l := c.Rise(); len(l) != 0 || !c.High() {
				t.Errorf("%s: Rise: %v, high: %v", what, l, c.High())
			}
			takesNone(t, what, c)
			if !c.Fall() || c.High() || c.Fall() {
				t.Errorf("%s: does not fall, or twice", what)
			}
			c.Rise()
			c.Clear()
			if c.High() || c.Fall() {
				t.Errorf("%s: is high behind Clear", what)
			}
		}
	}
	if tasks.New() == nil {
		t.Error("New(): nil")
	}
}

func TestP1902NewOfSoMany(t *testing.T) {
	for n := range maxTasks + 1 {
		for _, task := range []conf.Task{high(), wide(), level(), low(), short(), long()} {
			b := newBoth(t, slices.Repeat([]conf.Task{task}, n)...)
			// Low, and without jobs, at first.
			hasNone(t, "at first", b.c)
			if b.c.High() || b.c.Fall() {
				t.Error("high at first, or falls")
			}
			b.lookFar()
			for i := -1; i <= maxTasks; i++ {
				b.put(jobOf(i, 100-i, 2, opsOf(9*i, i+1)...))
				b.look()
			}
			b.lookFar()
			for i := -1; i <= maxTasks; i++ {
				b.run(i, 1)
				b.look()
			}
			b.stop("New")
		}
	}
	for _, n := range []int{maxTasks + 1, maxTasks + 2, 2 * maxTasks, 255, 256, 257, 1 << 16} {
		for _, task := range []conf.Task{high(), low()} {
			if tasks.New(slices.Repeat([]conf.Task{task}, n)...) != nil {
				t.Errorf("New of %d tasks: not nil", n)
			}
		}
	}
}

// wrong: tasks that are not right, each by one thing.
func wrong() []conf.Task {
	return []conf.Task{
		{}, {Hi: true}, {T: -1}, {Hi: true, T: 20, D: 15, V: 2, Lo: 3, Top: 6},
		{T: maxPeriod + 1, D: 9, V: 9, Lo: 1, Top: 1}, {Hi: true, T: maxPeriod + 1, D: 9, V: 9, Lo: 1, Top: 1},
		{T: 20, D: 21, V: 21, Lo: 3, Top: 3}, {T: 20, D: 15, V: 14, Lo: 3, Top: 3}, {T: 20, D: 15, V: 15, Lo: 3, Top: 4}, {T: 20, D: 15, V: 15, Lo: 0, Top: 0},
		{Hi: true, T: 20, D: 15, V: 16, Lo: 3, Top: 6}, {Hi: true, T: 20, D: 15, V: 8, Lo: 3, Top: 2}, {Hi: true, T: 20, D: 15, V: 8, Lo: 3, Top: 16},
		{Hi: true, T: 20, D: 15, V: 8, Lo: 0, Top: 6}, {Hi: true, T: maxTick, D: 15, V: 8, Lo: 3, Top: 6},
	}
}

func TestP1902NewOfOneThatIsNotRight(t *testing.T) {
	for _, bad := range wrong() {
		if bad.Right() {
			t.Fatalf("%v is right", bad)
		}
		for n := 1; n <= maxTasks+2; n++ {
			for at := range n {
				l := slices.Repeat([]conf.Task{high(), low()}, n)[:n]
				l[at] = bad
				if tasks.New(l...) != nil {
					t.Errorf("New of %d tasks, with %v at %d: not nil", n, bad, at)
				}
			}
		}
	}
	isNone(t, "what New tells of one that is not right", tasks.New(conf.Task{}))
	isNone(t, "what New tells of too many", tasks.New(slices.Repeat([]conf.Task{low()}, maxTasks+1)...))
}

func TestP1901NewDoesNotHoldOnToItsList(t *testing.T) {
	for n := range maxTasks + 1 {
		room := append(mixed(), mixed()...)
		was := slices.Clone(room)
		b := newBoth(t, room[:n]...)
		if !slices.Equal(room, was) {
			t.Errorf("New of %d: the list, or what is behind it, is another one now", n)
		}
		for _, other := range []conf.Task{{}, {T: 9, D: 9, V: 9, Lo: 9, Top: 9}, {Hi: true, T: 500, D: 400, V: 1, Lo: 1, Top: 300}} {
			// The list becomes another one: high tasks are low then, and of other times and budgets.
			for i := range room {
				room[i] = other
			}
			for task := range n {
				b.put(jobOf(task, 10*task, 9))
			}
			b.look()
			for task := range n {
				b.run(task, 4)
			}
			b.rise()
			b.look()
			for task := range n {
				b.run(task, 3)
			}
			b.missed(40)
			b.look()
			b.clear()
			b.stop("behind a change of the list")
		}
	}
}

package part

import (
	"parclose/api"
	"parclose/conf"
	"parclose/police"
	"parclose/tasks"
)

// board: the table of a partition's jobs, and who is let in there.
type board struct {
	*tasks.Table
	guard *police.Police
}

// newBoard: of tasks that there may be.
func newBoard(l ...conf.Task) board { return board{tasks.New(l...), police.New(l...)} }

// arrive: a job is there, and was accepted, if both let it in.
func (b *board) arrive(now int, j tasks.Job) api.Errno {
	if err := b.guard.May(j.Task, now); err != api.OK {
		return err
	}
	j.Arrived = now
	if err := b.Put(j); err != api.OK {
		return err
	}
	return b.guard.Take(j.Task, now)
}

// rise: the mode is high, and low tasks are dropped; those that had a job.
func (b *board) rise() []int {
	b.guard.Drop(true)
	return b.Rise()
}

// fall: the mode is low again, and no tasks are dropped, if the table falls. Did it?
func (b *board) fall() bool {
	fell := b.Fall()
	if fell {
		b.guard.Drop(false)
	}
	return fell
}

// empty: no jobs, low mode, and no tasks are dropped.
func (b *board) empty() {
	b.Clear()
	b.guard.Drop(false)
}

// all: the jobs that are there, by tasks.
func (b *board) all() []tasks.Job {
	var l []tasks.Job
	for task := range api.MaxTasks {
		if j, ok := b.Get(task); ok {
			l = append(l, j)
		}
	}
	return l
}

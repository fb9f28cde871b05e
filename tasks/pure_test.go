package tasks_test

import (
	"slices"
	"sync"
	"testing"

	"parclose/conf"
	"parclose/tasks"
)

// spoil changes a list, and what is behind it.
func spoil[T any](l []T, x T) {
	for i := range l {
		l[i] = x
	}
	grown := append(l, x, x, x)
	for i := range grown {
		grown[i] = x
	}
	grown = l[:cap(l)]
	for i := range grown {
		grown[i] = x
	}
}

// other: an Op that no job of the tests has.
var other = tasks.Op{Kind: -7, A: -77, B: -777}

func TestP1901PutDoesNotHoldOnToItsOps(t *testing.T) {
	for n := range maxOps + 1 {
		room := opsOf(0, maxOps+9)
		was := slices.Clone(room)
		b := newBoth(t, long())
		j := jobOf(0, 3, 80, room[:n]...)
		b.put(j)
		if !slices.Equal(room, was) {
			t.Errorf("Put of %d Ops: the list, or what is behind it, is another one now", n)
		}
		b.run(0, 2)
		b.look()
		spoil(room, other)
		b.look()
		b.run(0, 30)
		b.rise()
		spoil(room, tasks.Op{})
		b.run(0, maxOps-20)
		b.look()
		b.stop("behind a change of the Ops")
	}
}

func TestP1901PutThatIsRefusedHoldsOnToNothing(t *testing.T) {
	b := with(t, mixed(), jobOf(0, 1, 5, opsOf(0, 5)...))
	b.rise()
	for _, j := range append(wrongJobs(0), jobOf(0, 1, 5, opsOf(9, 5)...), jobOf(1, 1, 5, opsOf(9, 5)...)) {
		was := slices.Clone(j.Ops)
		b.put(j)
		if !slices.Equal(j.Ops, was) {
			t.Errorf("Put(%v): the Ops were %v", j, was)
		}
		spoil(j.Ops, other)
		b.look()
	}
	b.run(0, 5)
	b.stop("refused")
}

func TestP1901WhatGetTellsSharesNothing(t *testing.T) {
	b := with(t, mixed(), jobOf(0, 1, 6, opsOf(0, 6)...), jobOf(2, 1, 29, opsOf(50, maxOps)...), jobOf(4, 1, 4))
	for range 6 {
		for task := range maxTasks {
			one, _ := b.c.Get(task)
			two, _ := b.c.Get(task)
			want, _ := b.b.get(task)
			spoil(one.Ops, other)
			if !sameJob(two, want) {
				t.Errorf("another answer is %v now", two)
			}
			b.look()
			spoil(two.Ops, tasks.Op{})
			b.look()
			// Of none, too: what would grow there is nothing that a Table has.
			b.run(task, 1)
		}
		b.rise()
		b.look()
		b.stop("what Get told")
	}
}

func TestP1901WhatGetToldStays(t *testing.T) {
	for seed := range uint64(100) {
		d := newDrawing(t, maxTasks, 700+seed)
		for range 40 {
			d.call()
		}
		var told, was []tasks.Job
		for task := range maxTasks {
			j, _ := d.c.Get(task)
			told = append(told, j)
			j.Ops = slices.Clone(j.Ops)
			was = append(was, j)
		}
		for range 40 {
			d.call()
		}
		for task := range maxTasks {
			if !sameJob(told[task], was[task]) {
				t.Fatalf("what was told is %v now, and was %v", told[task], was[task])
			}
		}
		d.look()
		d.stop("what Get told stays")
	}
}

func TestP1901WhatRiseAndMissedTellSharesNothing(t *testing.T) {
	b := all(t, mixed())
	for round := range 4 {
		lost := b.c.Rise()
		tells(t, "Rise", lost, 1, 3, 5)
		b.b.rise()
		spoil(lost, 77)
		b.look()
		missed := b.c.Missed(29)
		tells(t, "Missed", missed, 0, 4)
		b.b.missed(29)
		spoil(missed, 99)
		b.look()
		tells(t, "Missed", b.c.Missed(50), 2)
		b.b.missed(50)
		b.fall()
		for task := range maxTasks {
			b.put(jobOf(task, 10+task, 50+round, opsOf(10*task, 3)...))
		}
		b.look()
		// What was told is another's, whatever comes.
		if !slices.Equal(lost, []int{77, 77, 77}) || !slices.Equal(missed, []int{99, 99}) {
			t.Errorf("what was told is %v, %v now", lost, missed)
		}
		b.stop("what Rise and Missed told")
	}
}

func TestP1901TablesAreApart(t *testing.T) {
	// Of the same list, and of the same Ops, too.
	list, ops := mixed(), opsOf(0, 20)
	var l []*both
	for n := range maxTasks + 1 {
		l = append(l, newBoth(t, list[:n]...), newBoth(t, list[:n]...), newBoth(t, slices.Repeat([]conf.Task{high()}, n)...))
	}
	for i, b := range l {
		// Calls of one, and all of them are looked at.
		for task := range maxTasks {
			b.put(jobOf(task, 10*i, 3+task, ops[:i]...))
			b.run(task, i%4)
		}
		if i%3 == 0 {
			b.rise()
		}
		b.missed(10*i + i)
		for _, other := range l {
			other.look()
		}
		b.stop("apart")
	}
}

func TestP1901TheSameCallsTellTheSame(t *testing.T) {
	for count := range maxTasks + 1 {
		for seed := range uint64(10) {
			a, b := newDrawing(t, count, 300+seed), newDrawing(t, count, 300+seed)
			for range 300 {
				a.call()
				// Looks in between change nothing.
				a.look()
				b.call()
			}
			n, due, ok := a.c.First()
			if m, at, is := b.c.First(); n != m || due != at || ok != is || a.c.High() != b.c.High() || a.c.Len() != b.c.Len() {
				t.Fatal("the same calls, and other answers")
			}
			for task := range maxTasks {
				j, _ := a.c.Get(task)
				if k, _ := b.c.Get(task); !sameJob(j, k) {
					t.Fatalf("the same calls, and jobs %v and %v", j, k)
				}
			}
			b.look()
			b.stop("the same calls")
		}
	}
}

func TestP1901EachOfManyHasItsOwnTable(t *testing.T) {
	list, ops := mixed(), opsOf(0, 9)
	var group sync.WaitGroup
	for seed := range uint64(16) {
		d, b := newDrawing(t, int(seed)%(maxTasks+1), 500+seed), newBoth(t, list...)
		group.Go(func() {
			for range 200 {
				d.call()
				d.look()
				b.put(jobOf(int(seed)%maxTasks, d.now, 3, ops...))
				b.run(int(seed)%maxTasks, 1)
			}
			b.look()
		})
	}
	group.Wait()
}

func TestP1901ManyAskOneTable(t *testing.T) {
	// What tells, and changes nothing, may be asked at the same time.
	b := all(t, mixed())
	b.run(0, 2)
	b.rise()
	var group sync.WaitGroup
	for range 8 {
		group.Go(func() {
			for range 50 {
				b.look()
			}
		})
	}
	group.Wait()
}

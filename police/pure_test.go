package police_test

import (
	"slices"
	"sync"
	"testing"

	"parclose/conf"
)

func TestP1601PolicesAreApart(t *testing.T) {
	// Of the same list, too.
	list := mixed()
	var l []*both
	for n := range maxTasks + 1 {
		l = append(l, newBoth(t, list[:n]...), newBoth(t, list[:n]...), newBoth(t, kinds(n, 5)...))
	}
	for i, b := range l {
		// Calls of one, and all of them are looked at.
		for task := range maxTasks {
			b.take(task, 30*i+task)
		}
		b.drop(i%2 == 0)
		for _, other := range l {
			other.look()
		}
		b.stop("apart")
	}
}

func TestP1601TheSameCallsTellTheSame(t *testing.T) {
	for count := range maxTasks + 1 {
		for seed := range uint64(10) {
			a, b := newDrawing(t, count, 300+seed), newDrawing(t, count, 300+seed)
			for range 300 {
				a.call()
				// Looks in between change nothing.
				a.look()
				b.call()
			}
			for task := range maxTasks {
				n, ok := a.p.Last(task)
				if m, was := b.p.Last(task); n != m || ok != was || a.p.Dropped(task) != b.p.Dropped(task) {
					t.Errorf("the same calls, and Last(%d) is %d, %v, and %d, %v", task, n, ok, m, was)
				}
				for now := a.now - 20; now < a.now+20; now++ {
					if e, f := a.p.May(task, now), b.p.May(task, now); e != f {
						t.Errorf("the same calls, and May(%d, %d) is %d, and %d", task, now, e, f)
					}
				}
			}
			b.look()
			b.stop("the same calls")
		}
	}
}

func TestP1601EachOfManyHasItsOwnPolice(t *testing.T) {
	list := mixed()
	var group sync.WaitGroup
	for seed := range uint64(16) {
		d, b := newDrawing(t, int(seed)%(maxTasks+1), 500+seed), newBoth(t, list...)
		group.Go(func() {
			for range 200 {
				d.call()
				d.look()
				b.take(int(seed)%maxTasks, d.r.IntN(5000))
			}
			b.look()
		})
	}
	group.Wait()
}

func TestP1601ManyAskOnePolice(t *testing.T) {
	// What tells, and changes nothing, may be asked at the same time.
	b := newBoth(t, mixed()...)
	for task := range maxTasks {
		b.take(task, 10*task)
	}
	b.drop(true)
	var group sync.WaitGroup
	for range 8 {
		group.Go(func() {
			for range 50 {
				b.look()
			}
		})
	}
	group.Wait()
}

func TestP1601OneTaskTwice(t *testing.T) {
	// Tasks that are alike are tasks by themselves.
	b := newBoth(t, slices.Repeat([]conf.Task{other(false, 12)}, maxTasks)...)
	for task := range maxTasks {
		b.take(task, 5)
		b.take(task, 6)
		b.look()
		b.stop("tasks that are alike")
	}
}

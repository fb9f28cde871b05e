package kernel_test

import (
	"slices"
	"testing"

	"parclose/api"
	"parclose/conf"
	"parclose/journal"
	"parclose/tasks"
)

// All looks, of all numbers, at each tick of some runs.
func TestP2505LooksAtEachTick(t *testing.T) {
	for seed := range uint64(12) {
		r := drawnBy(500 + seed)
		c := drawn(r)
		if seed < 3 {
			c = systems()[seed]
		}
		b, d := newBoth(t, c, drawnStart(r)), newDrawing(r, c)
		b.lookFar()
		for range 40 {
			b.step(d.items()...)
			b.lookFar()
			b.stop("looks")
		}
	}
}

func TestP2505PartitionsThereAreNot(t *testing.T) {
	for _, c := range systems() {
		b := newBoth(t, c, 50)
		play(b, newDrawing(drawnBy(7), c), 60)
		for _, n := range numbers {
			if !b.b.is(n) {
				tellsNothing(t, "a partition there is not", b.k, n)
			}
		}
	}
}

func TestP2505TickAndConfig(t *testing.T) {
	for _, c := range systems() {
		k := booted(t, c, 1234)
		for n := range 50 {
			if k.Tick() != 1234+n || !conf.Same(k.Config(), c) {
				t.Fatalf("Tick: %d, Config: %v", k.Tick(), k.Config())
			}
			// One that is refused makes no tick.
			k.Step(slices.Repeat(items(mark(1)), maxItems+1)...)
			k.Step()
		}
	}
}

func TestP2505JobsAndQueue(t *testing.T) {
	c := alone(conf.Part{Tasks: []conf.Task{low(60, 60, 5), high(60, 50, 40, 3, 6), low(60, 30, 4)}, Servers: []conf.Server{plainly(1, 30), refilled(1, 60)}})
	b := newBoth(t, c, 2)
	b.step(arrive(0, 2, 3, op(1, 1, 1)), arrive(0, 0, 5), arrive(0, 1, 4, op(5, 0, 0), op(0, 2, 2)), ask(0, 0, 1), ask(0, 1, 9), ask(0, 0, 2))
	// Task 2 and server 0 are both due at 32, and the job is ahead.
	want := []tasks.Job{
		{Task: 0, Arrived: 2, Work: 5}, {Task: 1, Arrived: 2, Work: 4, Ops: ops(op(5, 0, 0), op(0, 2, 2))}, {Task: 2, Arrived: 2, Work: 3, Done: 1, Ops: ops(op(1, 1, 1))},
	}
	if l := b.k.Jobs(0); !slices.EqualFunc(l, want, sameJob) {
		t.Errorf("Jobs: %v", l)
	}
	if b.k.Queue(0, 0) != 2 || b.k.Queue(0, 1) != 1 || b.k.Queue(0, 2) != 0 {
		t.Errorf("Queue: %d, %d, %d", b.k.Queue(0, 0), b.k.Queue(0, 1), b.k.Queue(0, 2))
	}
	b.steps(3)
	if l := b.k.Jobs(0); !slices.EqualFunc(l, want[:2], sameJob) || b.k.Queue(0, 0) != 1 {
		t.Errorf("Jobs: %v; Queue: %d", l, b.k.Queue(0, 0))
	}
	b.lookFar()
	b.stop("jobs and queue")
}

func TestP2505UpAndHigh(t *testing.T) {
	b := newBoth(t, pair(), 0)
	is := func(p int, up, high bool) {
		t.Helper()
		if b.k.Up(p) != up || b.k.High(p) != high {
			t.Errorf("of %d: up: %v, high: %v", p, b.k.Up(p), b.k.High(p))
		}
		b.look()
	}
	b.step(arrive(0, 0, 5), arrive(1, 0, 6))
	is(0, true, false)
	b.step()
	is(0, true, true)
	is(1, true, false)
	b.step(halt(1))
	is(0, true, true)
	is(1, false, false)
	b.steps(2)
	is(0, true, false)
	b.step(start(1), halt(0))
	is(0, false, false)
	is(1, true, false)
	b.stop("up and high")
}

func TestP2505Faults(t *testing.T) {
	// Each kind of each partition by itself, and they stay behind a start.
	c := talking([3]uint8{note, note, again})
	b := newBoth(t, c, 0)
	for n := range 4 {
		does(b, 0, op(9, 0, 0))
		does(b, 1, op(-9, 0, 0), op(0, 0, 0))
		b.step(start(1))
		does(b, 2, make([]tasks.Op, 12)...)
		for p, want := range [][3]int{{0, 0, n + 1}, {0, 0, n + 1}, {0, n + 1, 0}} {
			for kind, m := range want {
				if got := b.k.Faults(p, kind); got != m {
					t.Errorf("Faults(%d, %d): %d, not %d", p, kind, got, m)
				}
			}
		}
		b.lookFar()
		b.stop("faults")
	}
}

func TestP2505Log(t *testing.T) {
	// Each partition has its own, and what was told once is told again, with more behind it.
	b := newBoth(t, chain(), 0)
	d := newDrawing(drawnBy(9), chain())
	var was [3][]journal.Entry
	for range 200 {
		b.step(d.items()...)
		for p := range 3 {
			l := b.k.Log(p)
			if len(l) < len(was[p]) || !journal.Same(l[:len(was[p])], was[p]) {
				t.Fatalf("Log(%d): %v, behind %v", p, l, was[p])
			}
			for _, e := range l[len(was[p]):] {
				if e.Tick != b.k.Tick()-1 {
					t.Fatalf("Log(%d): %v, at %d", p, e, b.k.Tick()-1)
				}
			}
			was[p] = l
		}
	}
	b.stop("Log")
}

// The chapter's example.
func TestP2503TheExample(t *testing.T) {
	k := booted(t, alone(conf.Part{Tasks: []conf.Task{low(10, 10, 2)}}), 0)
	if told, err := k.Step(arrive(0, 0, 1)); err != api.OK || len(told.Results) != 1 || told.Results[0] != api.OK {
		t.Error(told, err)
	}
	if l := k.Log(0); !journal.Same(l, []journal.Entry{{Kind: journal.Accept, B: 1}, {Kind: journal.Ran}, {Kind: journal.Ended}}) {
		t.Error(l)
	}
	if n := k.Tick(); n != 1 {
		t.Error(n)
	}
}

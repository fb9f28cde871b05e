package kernel_test

import (
	"math"
	"slices"
	"testing"

	"parclose/api"
	"parclose/conf"
	"parclose/image"
	"parclose/journal"
	"parclose/kernel"
	"parclose/tasks"
)

// numbers: some about which an answer may turn, be they partitions', servers', tasks', kinds', works, or ticks.
var numbers = []int{
	math.MinInt, math.MinInt + 1, -maxTick - 1, -maxTick, -maxWork, -1000, -100, -7, -6, -2, -1, 0, 1, 2, 3, 4, 5, 6, 7, 8, 9, 30, 31, 63, 64, 65, 99, 100, 101,
	255, 256, 999, 1000, 1001, maxWork - 1, maxWork, maxWork + 1, 1 << 31, 1 << 32, 1<<32 + 1, maxTick - 1, maxTick, maxTick + 1, math.MaxInt - 1, math.MaxInt,
}

// both: a Kernel, and what it is held against. Each step is made of both.
type both struct {
	t *testing.T
	k *kernel.Kernel
	b *plain
}

// encoded: the image of a system that has one.
func encoded(t *testing.T, c conf.Config) []byte {
	t.Helper()
	b, err := image.Encode(c)
	if err != api.OK {
		t.Fatalf("Encode of %v: %d", c, err)
	}
	return b
}

// booted: a Kernel of a system that boots.
func booted(t *testing.T, c conf.Config, start int) *kernel.Kernel {
	t.Helper()
	k, err := kernel.Boot(encoded(t, c), start)
	if err != api.OK || k == nil {
		t.Fatalf("Boot of %v at %d: %d", c, start, err)
	}
	return k
}

// newBoth: of a system that boots.
func newBoth(t *testing.T, c conf.Config, start int) *both {
	t.Helper()
	return &both{t, booted(t, c, start), newPlain(c, start)}
}

// laid: of one that may not boot.
func laid(t *testing.T, c conf.Config, start int) *both {
	return &both{t, kernel.Lay(c, start), newPlain(c, start)}
}

func sameReport(a, b kernel.Report) bool {
	return a.Tick == b.Tick && a.Choice == b.Choice && a.What == b.What && slices.Equal(a.Results, b.Results)
}

func sameJob(a, b tasks.Job) bool {
	return a.Task == b.Task && a.Arrived == b.Arrived && a.Work == b.Work && a.Done == b.Done && slices.Equal(a.Ops, b.Ops)
}

func (b *both) step(l ...kernel.Item) (kernel.Report, api.Errno) {
	b.t.Helper()
	told, err := b.k.Step(l...)
	if want, wantErr := b.b.step(l...); !sameReport(told, want) || err != wantErr {
		b.t.Errorf("Step of %v: %v, %d, not %v, %d", l, told, err, want, wantErr)
	}
	return told, err
}

// results: the same, and besides the items' results are held to these.
func (b *both) results(l []kernel.Item, want ...api.Errno) {
	b.t.Helper()
	if told, err := b.step(l...); err != api.OK || !slices.Equal(told.Results, want) {
		b.t.Errorf("Step of %v: %v, %d, and not %v", l, told.Results, err, want)
	}
}

// refused: the same, where the step is not made.
func (b *both) refused(want api.Errno, l ...kernel.Item) {
	b.t.Helper()
	if told, err := b.step(l...); err != want || !sameReport(told, kernel.Report{}) {
		b.t.Errorf("Step of %d items: %v, %d, and not %d", len(l), told, err, want)
	}
}

// steps: so many, with no items.
func (b *both) steps(n int) {
	b.t.Helper()
	for range n {
		b.step()
	}
}

// sees holds the log of p, behind its first entries, to these.
func (b *both) sees(p, behind int, want ...journal.Entry) {
	b.t.Helper()
	l := b.k.Log(p)
	if len(l) < behind || !slices.Equal(l[min(behind, len(l)):], want) {
		b.t.Errorf("Log(%d), behind %d: %v, and not %v", p, behind, l[min(behind, len(l)):], want)
	}
}

// look: all that a Kernel tells of the partitions that there are, and of those next to them; twice, as that changes nothing.
func (b *both) look() {
	b.t.Helper()
	for range 2 {
		if n := b.k.Tick(); n != b.b.tick {
			b.t.Errorf("Tick: %d, not %d", n, b.b.tick)
		}
		for p := -1; p <= len(b.b.parts); p++ {
			b.lookAt(p)
			b.lookInto(p, -1, 0, 1, 2, 3, 4, 5)
		}
	}
}

// lookFar: the same, and each with all numbers.
func (b *both) lookFar() {
	b.t.Helper()
	b.look()
	if c := b.k.Config(); !conf.Same(c, b.b.c) {
		b.t.Errorf("Config: %v, not %v", c, b.b.c)
	}
	for _, p := range numbers {
		b.lookAt(p)
		b.lookInto(p, numbers...)
	}
	b.look()
}

// lookAt: what is told of p itself.
func (b *both) lookAt(p int) {
	b.t.Helper()
	up, high, jobs := false, false, []tasks.Job(nil)
	if b.b.is(p) {
		a := b.b.parts[p]
		up, high, jobs = a.up, a.high, a.told()
	}
	if is := b.k.Up(p); is != up {
		b.t.Errorf("Up(%d): %v", p, is)
	}
	if is := b.k.High(p); is != high {
		b.t.Errorf("High(%d): %v", p, is)
	}
	if l := b.k.Jobs(p); !slices.EqualFunc(l, jobs, sameJob) {
		b.t.Errorf("Jobs(%d): %v, not %v", p, l, jobs)
	}
	if n := b.k.Got(p); n != b.b.got(p) {
		b.t.Errorf("Got(%d): %d, not %d", p, n, b.b.got(p))
	}
	if l, want := b.k.Log(p), b.b.told(p); !slices.Equal(l, want) {
		b.t.Errorf("Log(%d): %d entries, not %d; %s", p, len(l), len(want), firstOther(l, want))
	}
}

// lookInto: what is told of p's servers, and of kinds, of these numbers.
func (b *both) lookInto(p int, l ...int) {
	b.t.Helper()
	for _, n := range l {
		queue, faults := 0, 0
		if b.b.is(p) {
			faults = b.b.parts[p].count(n)
			if s := b.b.parts[p].servers; 0 <= n && n < len(s) {
				queue = len(s[n].asks)
			}
		}
		// Gaps are nobody's.
		spent := b.b.spent(n, p)
		if got := b.k.Spent(n, p); got != spent {
			b.t.Errorf("Spent(%d, %d): %d, not %d", n, p, got, spent)
		}
		if got := b.k.Queue(p, n); got != queue {
			b.t.Errorf("Queue(%d, %d): %d, not %d", p, n, got, queue)
		}
		if got := b.k.Faults(p, n); got != faults {
			b.t.Errorf("Faults(%d, %d): %d, not %d", p, n, got, faults)
		}
	}
}

// stop ends a test that went wrong, so that it tells no more than what went wrong first.
func (b *both) stop(what string) {
	b.t.Helper()
	if b.t.Failed() {
		b.t.Fatalf("%s, at %d: of %v", what, b.b.tick, b.b.c)
	}
}

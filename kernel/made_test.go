package kernel_test

import (
	"testing"

	"parclose/api"
	"parclose/conf"
	"parclose/kernel"
	"parclose/tasks"
)

// everyItem: items of each kind, and of kinds there are not, of each of the numbers.
func everyItem() []kernel.Item {
	var l []kernel.Item
	for _, n := range numbers {
		for kind := -1; kind <= 6; kind++ {
			l = append(l, kernel.Item{Kind: kind, Part: n, A: n, B: n, Ops: []tasks.Op{op(kind, n, n)}}, kernel.Item{Kind: kind, A: n, B: 1}, kernel.Item{Kind: kind, Part: n, B: n})
		}
		l = append(l, kernel.Item{Kind: n})
	}
	return l
}

// isNone holds a Kernel that is none to its answers, whatever it is handed.
func isNone(t *testing.T, what string, k *kernel.Kernel) {
	t.Helper()
	for range 2 {
		every := everyItem()
		for _, l := range [][]kernel.Item{nil, {}, items(arrive(0, 0, 1)), every[:maxItems], every[:maxItems+1], every} {
			if told, err := k.Step(l...); err != api.ErrArg || !sameReport(told, kernel.Report{}) {
				t.Errorf("%s: Step of %d items: %v, %d", what, len(l), told, err)
			}
		}
		for _, x := range every {
			if told, err := k.Step(x); err != api.ErrArg || !sameReport(told, kernel.Report{}) {
				t.Errorf("%s: Step of %v: %v, %d", what, x, told, err)
			}
		}
		if n, c := k.Tick(), k.Config(); n != 0 || !conf.Same(c, conf.Config{}) {
			t.Errorf("%s: Tick: %d, Config: %v", what, n, c)
		}
		for _, p := range numbers {
			tellsNothing(t, what, k, p)
		}
	}
}

// tellsNothing holds a Kernel to what it tells of a partition there is not.
func tellsNothing(t *testing.T, what string, k *kernel.Kernel, p int) {
	t.Helper()
	if k.Up(p) || k.High(p) {
		t.Errorf("%s: of %d: up: %v, high: %v", what, p, k.Up(p), k.High(p))
	}
	if l, jobs := k.Log(p), k.Jobs(p); len(l) != 0 || len(jobs) != 0 {
		t.Errorf("%s: of %d: Log: %v, Jobs: %v", what, p, l, jobs)
	}
	if n := k.Got(p); n != 0 {
		t.Errorf("%s: Got(%d): %d", what, p, n)
	}
	for _, n := range numbers {
		if a, b, c := k.Spent(n, p), k.Queue(p, n), k.Faults(p, n); a != 0 || b != 0 || c != 0 {
			t.Errorf("%s: of %d, %d: Spent: %d, Queue: %d, Faults: %d", what, p, n, a, b, c)
		}
	}
}

func TestP2501ANilKernel(t *testing.T) {
	isNone(t, "a nil Kernel", nil)
}

func TestP2501KernelsThatBootDidNotMake(t *testing.T) {
	var k kernel.Kernel
	made := booted(t, pair(), 7)
	for range 20 {
		made.Step(arrive(0, 0, 2), ask(0, 0, 1), mark(1))
	}
	*made = kernel.Kernel{}
	for what, x := range map[string]*kernel.Kernel{"the zero Kernel": &k, "a new Kernel": new(kernel.Kernel), "a literal": {}, "one that was made zero": made} {
		isNone(t, what, x)
	}
}

func TestP2501WhatBootTellsBesideAnError(t *testing.T) {
	for what, b := range map[string][]byte{"nil": nil, "no bytes": {}, "one": {1}, "a zero system": {80, 65, 82, 75, 0, 0, 0, 0, 0, 0, 0}} {
		k, err := kernel.Boot(b, 0)
		if err == api.OK || k != nil {
			t.Errorf("Boot of %s: %v, %d", what, k, err)
		}
		isNone(t, "what Boot tells of "+what, k)
	}
}

// Each call ends, and none panics, at all arguments.
func TestP2501EveryItem(t *testing.T) {
	for _, c := range systems() {
		for _, from := range []int{0, maxTick - 200} {
			b := newBoth(t, c, from)
			for _, x := range everyItem() {
				b.step(x)
				b.stop("every item")
			}
			b.lookFar()
			b.stop("every item")
		}
	}
}

// Nor at a row of them, at any tick.
func TestP2501RowsOfEveryItem(t *testing.T) {
	every := everyItem()
	for _, c := range systems() {
		b := newBoth(t, c, 3)
		for from := 0; from < len(every); from += 7 {
			b.step(every[from:min(from+maxItems, len(every))]...)
			b.step(every[from:min(from+maxItems+1, len(every))]...)
			b.stop("rows of every item")
		}
		b.lookFar()
		b.stop("rows of every item")
	}
}

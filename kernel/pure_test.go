package kernel_test

import (
	"bytes"
	"math/rand/v2"
	"slices"
	"sync"
	"testing"

	"parclose/api"
	"parclose/conf"
	"parclose/journal"
	"parclose/kernel"
	"parclose/tasks"
)

// spoil fills a list with something odd, and the room behind it.
func spoil[T any](l []T, with T) {
	l = l[:cap(l)]
	for i := range l {
		l[i] = with
	}
}

var (
	oddOp    = tasks.Op{Kind: -77, A: -77, B: -77}
	oddEntry = journal.Entry{Tick: -77, Kind: -77, A: -77, B: -77}
	oddJob   = tasks.Job{Task: -77, Arrived: -77, Work: -77, Done: -77}
)

// spoilConfig changes all of a system that was told.
func spoilConfig(c conf.Config) {
	for _, a := range c.Parts[:cap(c.Parts)] {
		spoil(a.Tasks, conf.Task{T: -77})
		spoil(a.Servers, conf.Server{T: -77})
		spoil(a.Donees, -77)
	}
	spoil(c.Parts, conf.Part{Donees: []int{-77}})
	spoil(c.Windows, conf.Window{At: -77})
	spoil(c.Chans, conf.Channel{From: -77})
}

// spoilJobs changes all jobs that were told.
func spoilJobs(l []tasks.Job) {
	for _, j := range l {
		spoil(j.Ops, oddOp)
	}
	spoil(l, oddJob)
}

// spoilTold changes all that a Kernel tells.
func spoilTold(k *kernel.Kernel) {
	spoilConfig(k.Config())
	for p := range maxParts {
		spoil(k.Log(p), oddEntry)
		spoilJobs(k.Jobs(p))
	}
}

// roomy: the same items, with room behind each list, which is filled.
func roomy(l []kernel.Item) []kernel.Item {
	var own []kernel.Item
	for _, x := range l {
		x.Ops = append(slices.Clone(x.Ops), oddOp, oddOp)[:len(x.Ops)]
		own = append(own, x)
	}
	return append(own, kernel.Item{Kind: 2, Ops: []tasks.Op{oddOp}}, kernel.Item{Kind: 3})[:len(l)]
}

func sameItem(a, b kernel.Item) bool {
	return a.Kind == b.Kind && a.Part == b.Part && a.A == b.A && a.B == b.B && slices.Equal(a.Ops, b.Ops)
}

func TestP2501TheBytesAreNotKept(t *testing.T) {
	for _, c := range systems() {
		b := append(encoded(t, c), 77, 77, 77)
		image := b[: len(b)-3 : len(b)-1]
		was := bytes.Clone(b)
		k, err := kernel.Boot(image, 5)
		if err != api.OK || !bytes.Equal(b, was) {
			t.Fatalf("Boot: %d, and the bytes are %v, not %v", err, b, was)
		}
		spoil(b, 255)
		x := &both{t, k, newPlain(c, 5)}
		x.lookFar()
		play(x, newDrawing(rand.New(rand.NewPCG(1, 251)), c), 100)
		x.lookFar()
		x.stop("bytes that were changed")
	}
}

func TestP2501BytesWithAnErrorAreNotChanged(t *testing.T) {
	whole := encoded(t, whole())
	for _, b := range [][]byte{whole[:len(whole)-1], append(bytes.Clone(whole), 0), encoded(t, refusedSystem()), encoded(t, crowded(false)), encoded(t, large(1))} {
		was := bytes.Clone(b)
		if k, err := kernel.Boot(b, 0); k != nil || err == api.OK {
			t.Errorf("Boot: %v, %d", k, err)
		}
		if !bytes.Equal(b, was) {
			t.Errorf("the bytes are %v, not %v", b, was)
		}
	}
}

func TestP2501TheItemsAreNotChangedAndNotKept(t *testing.T) {
	for seed := range uint64(150) {
		r := rand.New(rand.NewPCG(seed, 252))
		c := drawn(r)
		b, d := newBoth(t, c, 9), newDrawing(r, c)
		for range 60 {
			handed := roomy(d.items())
			was := roomy(handed)
			b.step(handed...)
			room := handed[:cap(handed)]
			for i, x := range was[:len(was)+2] {
				if !sameItem(room[i], x) {
					t.Fatalf("item %d: %v, not %v", i, room[i], x)
				}
			}
			for _, x := range handed {
				for _, o := range x.Ops[len(x.Ops) : len(x.Ops)+2] {
					if o != oddOp {
						t.Fatalf("the room behind the ops: %v", o)
					}
				}
				spoil(x.Ops, oddOp)
			}
			spoil(handed, kernel.Item{Kind: 2})
			b.look()
			b.stop("items that were changed")
		}
	}
}

// Ops that are changed behind the Step are seen neither in Jobs nor when they are done.
func TestP2501OpsThatWereChanged(t *testing.T) {
	b := newBoth(t, alone(conf.Part{Tasks: []conf.Task{low(10, 10, 5)}}), 0)
	ops := []tasks.Op{op(1, 0, 0), op(5, 0, 0), op(1, 0, 0), op(5, 0, 0)}
	x := arrive(0, 0, 4, ops...)
	b.b.step(arrive(0, 0, 4, slices.Clone(ops)...))
	if told, err := b.k.Step(x); err != api.OK || told.Results[0] != api.OK {
		t.Fatal(told, err)
	}
	spoil(ops, oddOp)
	b.look()
	b.steps(3)
	b.look()
	if n := b.k.Faults(0, odd); n != 0 {
		t.Errorf("faults: %d", n)
	}
}

func TestP2501WhatWasToldMayBeChanged(t *testing.T) {
	for seed := range uint64(150) {
		r := rand.New(rand.NewPCG(seed, 253))
		c := drawn(r)
		b, d := newBoth(t, c, 9), newDrawing(r, c)
		for range 60 {
			told, _ := b.step(d.items()...)
			spoil(told.Results, -77)
			spoilTold(b.k)
			b.look()
			b.stop("answers that were changed")
		}
		if got := b.k.Config(); !conf.Same(got, c) {
			t.Fatalf("Config: %v, not %v", got, c)
		}
		b.lookFar()
		b.stop("answers that were changed")
	}
}

func TestP2501AnswersAreApart(t *testing.T) {
	for seed := range uint64(60) {
		r := rand.New(rand.NewPCG(seed, 254))
		c := drawn(r)
		b, d := newBoth(t, c, 9), newDrawing(r, c)
		play(b, d, 50)
		one := b.k.Config()
		spoilConfig(b.k.Config())
		if !conf.Same(one, c) {
			t.Fatalf("Config: %v, not %v", one, c)
		}
		first, _ := b.step(d.items()...)
		results := slices.Clone(first.Results)
		for p := range c.Parts {
			log, jobs := b.k.Log(p), b.k.Jobs(p)
			spoilTold(b.k)
			// Grown in their own room they don't reach into the Kernel either.
			_ = append(b.k.Log(p), oddEntry, oddEntry)
			_ = append(b.k.Jobs(p), oddJob, oddJob)
			if !slices.Equal(log, b.b.told(p)) || !slices.EqualFunc(jobs, b.b.parts[p].told(), sameJob) {
				t.Fatalf("of %d: one answer is seen by another one", p)
			}
		}
		other, _ := b.step(d.items()...)
		spoil(other.Results, -77)
		if !slices.Equal(first.Results, results) {
			t.Fatalf("results: %v, not %v", first.Results, results)
		}
		b.look()
		b.stop("answers that are apart")
	}
}

// What was told stays as it was, whatever comes.
func TestP2501WhatWasToldStays(t *testing.T) {
	for seed := range uint64(60) {
		r := rand.New(rand.NewPCG(seed, 255))
		c := drawn(r)
		b, d := newBoth(t, c, 9), newDrawing(r, c)
		play(b, d, 40)
		for p := range c.Parts {
			log, jobs := b.k.Log(p), b.k.Jobs(p)
			wasLog, wasJobs := slices.Clone(b.b.told(p)), b.b.parts[p].told()
			play(b, d, 20)
			if !slices.Equal(log, wasLog) || !slices.EqualFunc(jobs, wasJobs, sameJob) {
				t.Fatalf("what was told of %d: %v, %v, not %v, %v", p, log, jobs, wasLog, wasJobs)
			}
		}
	}
}

func TestP2501KernelsOfOneImageAreApart(t *testing.T) {
	for _, c := range systems() {
		image := encoded(t, c)
		var l []*both
		for i := range 4 {
			k, err := kernel.Boot(image, 10*i)
			if err != api.OK {
				t.Fatal(err)
			}
			l = append(l, &both{t, k, newPlain(c, 10*i)})
		}
		var all []*drawing
		for i := range l {
			all = append(all, newDrawing(rand.New(rand.NewPCG(uint64(i), 256)), c))
		}
		for range 60 {
			for i, b := range l {
				b.step(all[i].items()...)
			}
		}
		for _, b := range l {
			b.lookFar()
			b.stop("several of one image")
		}
	}
}

func TestP2501TheSameCallsTellTheSame(t *testing.T) {
	for seed := range uint64(60) {
		r := rand.New(rand.NewPCG(seed, 257))
		c, from := drawn(r), drawnStart(r)
		a, b := booted(t, c, from), booted(t, c, from)
		x, y := newDrawing(rand.New(rand.NewPCG(seed, 258)), c), newDrawing(rand.New(rand.NewPCG(seed, 258)), c)
		for range 100 {
			// Looks in between change nothing.
			told, err := a.Step(x.items()...)
			for _, n := range numbers[:20] {
				tellsAnything(a, n)
			}
			if other, otherErr := b.Step(y.items()...); !sameReport(told, other) || err != otherErr {
				t.Fatalf("the same calls: %v, %d, and %v, %d", told, err, other, otherErr)
			}
		}
		for p := range c.Parts {
			if !journal.Same(a.Log(p), b.Log(p)) || !slices.EqualFunc(a.Jobs(p), b.Jobs(p), sameJob) {
				t.Fatalf("the same calls, and other logs, or jobs, of %d", p)
			}
		}
	}
}

// tellsAnything: all looks, at one number.
func tellsAnything(k *kernel.Kernel, n int) {
	k.Tick()
	k.Config()
	k.Log(n)
	k.Spent(n, 0)
	k.Got(n)
	k.Up(n)
	k.High(n)
	k.Jobs(n)
	k.Queue(n, n)
	k.Faults(n, n)
}

func TestP2501KernelsMayRunAtTheSameTime(t *testing.T) {
	// They have nothing in common, and one that is not stepped may be looked at by many.
	c := pair()
	image := encoded(t, c)
	looked := newBoth(t, c, 0)
	play(looked, newDrawing(rand.New(rand.NewPCG(5, 259)), c), 50)
	var group sync.WaitGroup
	for i := range 8 {
		group.Go(func() {
			k, err := kernel.Boot(image, i)
			if err != api.OK {
				t.Error(err)
				return
			}
			b := &both{t, k, newPlain(c, i)}
			d := newDrawing(rand.New(rand.NewPCG(uint64(i), 260)), c)
			for range 100 {
				b.step(d.items()...)
			}
			b.look()
			looked.lookFar()
			spoilTold(looked.k)
			looked.look()
		})
	}
	group.Wait()
}

package kernel_test

import (
	"slices"
	"testing"

	"parclose/api"
	"parclose/conf"
	"parclose/gsched"
	"parclose/journal"
	"parclose/tasks"
)

// talking: three partitions of one tick each in turn, of a task that may do an op at each tick, and a server. Channels lead from 0 to 1 and from 1 to 2, of each kind.
func talking(acts [3]uint8) conf.Config {
	a := conf.Part{Tasks: []conf.Task{low(60, 60, 9)}, Servers: []conf.Server{plainly(1, 60), refilled(1, 60)}, Acts: acts}
	return conf.Config{
		Frame:   3,
		Windows: []conf.Window{{At: 0, Len: 1, Part: 0}, {At: 1, Len: 1, Part: 1}, {At: 2, Len: 1, Part: 2}},
		Parts:   []conf.Part{a, a, a},
		Chans: []conf.Channel{
			{Queue: true, From: 0, To: 1, Size: 2}, {From: 0, To: 1, Size: 2},
			{Queue: true, From: 1, To: 2, Size: 3}, {From: 1, To: 2, Size: 60},
		},
	}
}

// does: what p logs of a job of these ops, which comes at a tick that is the first one of a frame of three, sixty ticks behind the last one; without the Accept, Ran and Ended of it.
func does(b *both, p int, ops ...tasks.Op) []journal.Entry {
	b.t.Helper()
	b.steps(60 - b.b.tick%60)
	behind := len(b.k.Log(p))
	b.results(items(arrive(p, 0, len(ops), ops...)), api.OK)
	b.steps(3 * len(ops))
	b.look()
	b.stop("ops")
	return slices.DeleteFunc(logged(b, p, behind), func(e journal.Entry) bool {
		return e.Kind == journal.Accept || e.Kind == journal.Ran || e.Kind == journal.Ended
	})
}

// holds: the same, and it is held to these entries, each an Op with A and B.
func holds(b *both, p int, ops []tasks.Op, want ...[2]int) {
	b.t.Helper()
	var l []journal.Entry
	for _, x := range want {
		l = append(l, seen(0, journal.Op, x[0], x[1]))
	}
	if got := does(b, p, ops...); !slices.Equal(got, l) {
		b.t.Errorf("%v of %d: %v, not %v", ops, p, got, l)
	}
}

func ops(l ...tasks.Op) []tasks.Op { return l }

func TestP2504OpNop(t *testing.T) {
	b := newBoth(t, talking([3]uint8{}), 0)
	for _, n := range numbers {
		holds(b, 1, ops(op(0, n, n), op(0, 1, 2)))
	}
	// Behind the ops that a job has there is none, either.
	behind := len(b.k.Log(0))
	b.results(items(arrive(0, 0, 3, op(5, 0, 0))), api.OK)
	b.steps(9)
	if l := logged(b, 0, behind); len(l) != 6 || l[2] != seen(0, journal.Op, 5, 0) || l[5] != seen(0, journal.Ended, 0, 0) {
		t.Errorf("Log: %v", l)
	}
	b.lookFar()
	b.stop("OpNop")
}

func TestP2504OpClock(t *testing.T) {
	for _, from := range []int{0, 60, 1 << 40 * 60, (maxTick - 200) / 60 * 60} {
		b := newBoth(t, talking([3]uint8{}), from)
		b.results(items(arrive(2, 0, 3, op(1, 0, 0), op(1, -7, 9), op(1, 8, 8))), api.OK)
		b.steps(9)
		var l []journal.Entry
		for _, e := range b.k.Log(2) {
			if e.Kind == journal.Op {
				l = append(l, e)
			}
		}
		if want := []journal.Entry{seen(from+2, journal.Op, 1, from+2), seen(from+5, journal.Op, 1, from+5), seen(from+8, journal.Op, 1, from+8)}; !slices.Equal(l, want) {
			t.Errorf("from %d: %v", from, l)
		}
		b.look()
		b.stop("OpClock")
	}
}

func TestP2504OpWriteOfWhoMayAndWhoMayNot(t *testing.T) {
	b := newBoth(t, talking([3]uint8{}), 0)
	for _, channel := range numbers {
		for p := range 3 {
			want := 1
			if from := map[int]int{0: 0, 1: 0, 2: 1, 3: 1}; channel >= 0 && channel < 4 && from[channel] == p {
				want = 0
			}
			holds(b, p, ops(op(2, channel, 5)), [2]int{2, want})
		}
	}
	b.lookFar()
	b.stop("OpWrite")
}

func TestP2504OpReadOfWhoMayAndWhoMayNot(t *testing.T) {
	b := newBoth(t, talking([3]uint8{}), 0)
	for _, channel := range numbers {
		for p := range 3 {
			want := 1
			if to := map[int]int{0: 1, 1: 1, 2: 2, 3: 2}; channel >= 0 && channel < 4 && to[channel] == p {
				want = 6
			}
			holds(b, p, ops(op(3, channel, 5)), [2]int{31, want})
		}
	}
	b.lookFar()
	b.stop("OpRead")
}

func TestP2504WhatGoesAlongAQueue(t *testing.T) {
	b := newBoth(t, talking([3]uint8{}), 0)
	holds(b, 0, ops(op(2, 0, 5), op(2, 0, -6)), [2]int{2, 0}, [2]int{2, 0})
	holds(b, 1, ops(op(3, 0, 0), op(3, 0, 0), op(3, 0, 0)), [2]int{3, 5}, [2]int{30, 0}, [2]int{3, -6}, [2]int{30, 0}, [2]int{31, 6})
	// It is full, and the writer is told OK; the reader learns how many were lost.
	holds(b, 0, ops(op(2, 0, 1), op(2, 0, 2), op(2, 0, 3), op(2, 0, 4), op(2, 0, 5)), [2]int{2, 0}, [2]int{2, 0}, [2]int{2, 0}, [2]int{2, 0}, [2]int{2, 0})
	holds(b, 1, ops(op(3, 0, 0), op(3, 0, 0), op(3, 0, 0)), [2]int{3, 1}, [2]int{30, 3}, [2]int{3, 2}, [2]int{30, 0}, [2]int{31, 6})
	// Each number goes as it is.
	for _, n := range numbers {
		holds(b, 0, ops(op(2, 0, n)), [2]int{2, 0})
		holds(b, 1, ops(op(3, 0, 0)), [2]int{3, n}, [2]int{30, 0})
	}
	// What 1 writes goes to 2.
	holds(b, 1, ops(op(2, 2, 9), op(3, 2, 0)), [2]int{2, 0}, [2]int{31, 1})
	holds(b, 2, ops(op(3, 2, 0), op(3, 0, 0)), [2]int{3, 9}, [2]int{30, 0}, [2]int{31, 1})
	b.lookFar()
	b.stop("a queue")
}

func TestP2504WhatGoesAlongAnother(t *testing.T) {
	b := newBoth(t, talking([3]uint8{}), 0)
	// Of a size of 60: fresh at most 60 behind its writing, which is at 1 of a frame.
	holds(b, 1, ops(op(2, 3, 5), op(2, 3, 6)), [2]int{2, 0}, [2]int{2, 0})
	holds(b, 2, ops(op(3, 3, 0), op(3, 3, 0)), [2]int{3, 6}, [2]int{30, 1}, [2]int{3, 6}, [2]int{30, 0})
	holds(b, 2, ops(op(3, 3, 0)), [2]int{3, 6}, [2]int{30, 0})
	holds(b, 1, ops(op(2, 3, 7)), [2]int{2, 0})
	holds(b, 2, ops(op(0, 0, 0), op(3, 3, 0)), [2]int{3, 7}, [2]int{30, 0})
	b.lookFar()
	b.stop("another one")
}

func TestP2504FreshAtJustItsSize(t *testing.T) {
	// 0 writes at its tick, and 1 reads at the next one, or so many frames behind that.
	for size := 1; size <= 20; size++ {
		for frames := range 7 {
			c := talking([3]uint8{})
			c.Chans[1].Size = size
			b := newBoth(t, c, 0)
			l := append(make([]tasks.Op, frames), op(3, 1, 0))
			b.results(items(arrive(0, 0, 1, op(2, 1, 4)), arrive(1, 0, len(l), l...)), api.OK, api.OK)
			b.steps(3 * len(l))
			fresh := 0
			if 1+3*frames <= size {
				fresh = 1
			}
			if got := logged(b, 1, 0); !slices.Contains(got, seen(0, journal.Op, 30, fresh)) || slices.Contains(got, seen(0, journal.Op, 30, 1-fresh)) {
				t.Errorf("size %d, %d frames: %v", size, frames, got)
			}
			b.stop("fresh")
		}
	}
}

func TestP2504OpAsk(t *testing.T) {
	b := newBoth(t, talking([3]uint8{}), 0)
	for _, n := range numbers {
		err := 1
		if 0 <= n && n < 2 {
			err = 0
		}
		got := does(b, 1, op(4, n, 1))
		if len(got) == 0 || got[0] != seen(0, journal.Op, 4, err) {
			t.Errorf("OpAsk of %d: %v", n, got)
		}
		err = 1
		if 1 <= n && n <= maxWork {
			err = 0
		}
		// Of a work, of another partition, which is halted behind each.
		got = does(b, 2, op(4, 0, n))
		if len(got) == 0 || got[0] != seen(0, journal.Op, 4, err) {
			t.Errorf("OpAsk of a work %d: %v", n, got)
		}
		b.step(start(2))
		b.stop("OpAsk")
	}
	b.lookFar()
	b.stop("OpAsk")
}

func TestP2504OpAskIsServed(t *testing.T) {
	b := newBoth(t, talking([3]uint8{}), 0)
	var l []tasks.Op
	for range maxQueue + 1 {
		l = append(l, op(4, 1, 5))
	}
	b.results(items(arrive(0, 0, len(l), l...), ask(0, 0, 1)), api.OK, api.OK)
	b.steps(40)
	// The ninth one finds no room; none of it was served by then.
	got := logged(b, 0, 0)
	if n := len(got); n == 0 || slices.Index(got, seen(0, journal.Op, 4, 5)) < 0 || b.k.Queue(0, 1) != maxQueue {
		t.Errorf("Log: %v; Queue: %d", got, b.k.Queue(0, 1))
	}
	b.steps(400)
	if got := logged(b, 0, 0); slices.Index(got, seen(0, journal.Served, 1, 1)) < 0 {
		t.Errorf("Log: %v", got)
	}
	b.lookFar()
	b.stop("OpAsk")
}

func TestP2504OpModeAheadOfARise(t *testing.T) {
	// Lo 2, Top 5: it rises at its second tick; low is told at that one still, and high behind it, also at the tick by which it falls.
	c := alone(conf.Part{Tasks: []conf.Task{high(40, 40, 10, 2, 5), low(40, 40, 2)}})
	b := newBoth(t, c, 0)
	mode := []tasks.Op{op(5, 1, 1), op(5, 0, 0), op(5, 0, 0), op(5, -3, 9), op(5, 0, 0)}
	b.results(items(arrive(0, 0, 5, mode...)), api.OK)
	b.steps(5)
	b.results(items(arrive(0, 1, 2, mode[:2]...)), api.OK)
	b.steps(3)
	var l []int
	for _, e := range b.k.Log(0) {
		if e.Kind == journal.Op && e.A == 5 {
			l = append(l, e.B)
		}
	}
	if !slices.Equal(l, []int{0, 0, 1, 1, 1, 0, 0}) {
		t.Errorf("modes: %v", l)
	}
	// Where they stand: behind the events of the tick.
	want := []journal.Entry{seen(0, journal.Ran, 0, 0), seen(0, journal.Rose, 0, 0), seen(0, journal.Op, 5, 0)}
	if got := logged(b, 0, 3)[:3]; !slices.Equal(got, want) {
		t.Errorf("Log: %v", got)
	}
	want = []journal.Entry{seen(0, journal.Ran, 0, 0), seen(0, journal.Ended, 0, 0), seen(0, journal.Fell, 0, 0), seen(0, journal.Op, 5, 1)}
	if got := logged(b, 0, 10)[:4]; !slices.Equal(got, want) {
		t.Errorf("Log: %v", got)
	}
	b.lookFar()
	b.stop("OpMode")
}

func TestP2504KindsThereAreNot(t *testing.T) {
	for act := range uint8(3) {
		for _, kind := range numbers {
			if 0 <= kind && kind <= 5 {
				continue
			}
			b := newBoth(t, talking([3]uint8{note, note, act}), 0)
			b.results(items(arrive(1, 0, 3, op(kind, 7, 7), op(1, 0, 0)), ask(1, 0, 2)), api.OK, api.OK)
			b.steps(3)
			want := []journal.Entry{seen(0, journal.Accept, 0, 3), seen(0, journal.Ask, 0, 0), seen(1, journal.Ran, 0, 1), seen(1, journal.Fault, odd, int(act))}
			b.sees(1, 0, want...)
			if n := b.k.Faults(1, odd); n != 1 || b.k.Up(1) != (act != stop) || len(b.k.Jobs(1)) > 0 != (act == note) || b.k.Queue(1, 0) > 0 != (act == note) {
				t.Errorf("kind %d, act %d: %d faults, up: %v, Jobs: %v, Queue: %d", kind, act, n, b.k.Up(1), b.k.Jobs(1), b.k.Queue(1, 0))
			}
			b.steps(7)
			b.look()
			b.stop("a kind there is not")
		}
	}
}

func TestP2504OddClearsWhatWaits(t *testing.T) {
	for act, want := range map[uint8][2]int{note: {3, 4}, again: {31, 6}} {
		b := newBoth(t, talking([3]uint8{note, note, act}), 0)
		holds(b, 0, ops(op(2, 0, 4)), [2]int{2, 0})
		holds(b, 1, ops(op(2, 2, 8)), [2]int{2, 0})
		does(b, 1, op(77, 0, 0))
		if got := does(b, 1, op(3, 0, 0)); len(got) == 0 || got[0] != seen(0, journal.Op, want[0], want[1]) {
			t.Errorf("act %d: %v", act, got)
		}
		// What it wrote itself is there.
		holds(b, 2, ops(op(3, 2, 0)), [2]int{3, 8}, [2]int{30, 0})
		b.lookFar()
		b.stop("Odd")
	}
}

// Behind the events of its tick, whatever was done about them, an op is done.
func TestP2504TheOpOfATickThatIsOver(t *testing.T) {
	for act, asked := range []api.Errno{note: api.OK, stop: api.ErrDown, again: api.OK} {
		for kind, want := range map[int][]journal.Entry{
			1: {seen(0, journal.Op, 1, 2)}, 2: {seen(0, journal.Op, 2, 0)}, 3: {seen(0, journal.Op, 31, 6)}, 4: {seen(0, journal.Op, 4, int(asked))}, 5: {seen(0, journal.Op, 5, 0)},
			9: {seen(0, journal.Fault, odd, note)},
		} {
			c := eventful([3]uint8{note, uint8(act), note})
			b := newBoth(t, c, 0)
			channel := map[int]int{2: 1}[kind]
			b.step(arrive(0, 2, 9, tasks.Op{}, tasks.Op{}, op(kind, channel, 1)))
			b.steps(2)
			l := append([]journal.Entry{seen(0, journal.Ran, 2, 0), seen(0, journal.Over, 2, 0), seen(0, journal.Fault, overrun, act)}, want...)
			if got := logged(b, 0, 3); !slices.Equal(got, l) {
				t.Errorf("act %d, op %d: %v, not %v", act, kind, got, l)
			}
			b.steps(5)
			b.lookFar()
			b.stop("over")
		}
	}
}

// An op is of the partition that runs, be it in a tick of another one.
func TestP2504AnOpInATickThatWasGiven(t *testing.T) {
	c := talking([3]uint8{})
	c.Parts[0].Donees = []int{1}
	b := newBoth(t, c, 0)
	b.results(items(arrive(1, 0, 3, op(2, 2, 5), op(2, 0, 5), op(1, 0, 0))), api.OK)
	b.reports(gsched.Choice{Kind: own, Owner: 1, Runner: 1}, job(0))
	b.steps(1)
	b.reports(gsched.Choice{Kind: given, Owner: 0, Runner: 1}, job(0))
	b.sees(1, 0, seen(0, journal.Accept, 0, 3), seen(0, journal.Ran, 0, 0), seen(0, journal.Op, 2, 0), seen(1, journal.Ran, 0, 1), seen(1, journal.Op, 2, 1),
		seen(3, journal.Ran, 0, 0), seen(3, journal.Ended, 0, 0), seen(3, journal.Op, 1, 3))
	b.lookFar()
	b.stop("that was given")
}

// Of a server there is no op.
func TestP2504AServerDoesNone(t *testing.T) {
	b := newBoth(t, alone(conf.Part{Tasks: []conf.Task{low(50, 50, 3)}, Servers: []conf.Server{plainly(3, 9)}}), 0)
	b.results(items(ask(0, 0, 2), arrive(0, 0, 2, op(5, 0, 0), op(9, 0, 0))), api.OK, api.OK)
	b.steps(5)
	if got, want := logged(b, 0, 2), []journal.Entry{
		seen(0, journal.Ran, 100, 0), seen(0, journal.Ran, 100, 0), seen(0, journal.Served, 0, 1),
		seen(0, journal.Ran, 0, 0), seen(0, journal.Op, 5, 0), seen(0, journal.Ran, 0, 0), seen(0, journal.Ended, 0, 0), seen(0, journal.Fault, odd, note),
	}; !slices.Equal(got, want) {
		t.Errorf("Log: %v", got)
	}
	b.look()
	b.stop("a server")
}

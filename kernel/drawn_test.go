package kernel_test

import (
	"math/rand/v2"
	"testing"

	"parclose/api"
	"parclose/conf"
	"parclose/gsched"
	"parclose/journal"
	"parclose/kernel"
	"parclose/tasks"
)

// drawing: what items are drawn by.
type drawing struct {
	r *rand.Rand
	c conf.Config
	// often: of a hundred items that may come, how many do. wild: are there such that may not be?
	often int
	wild  bool
	// down: where it is told, partitions that are down are soon started.
	down func(p int) bool
}

func newDrawing(r *rand.Rand, c conf.Config) *drawing {
	return &drawing{r: r, c: c, often: []int{3, 10, 40, 100}[r.IntN(4)], wild: r.IntN(2) == 0}
}

// any: one of the numbers about which an answer may turn.
func (d *drawing) any() int { return numbers[d.r.IntN(len(numbers))] }

// near: that very number most often; at times one next to it, or any one.
func (d *drawing) near(n int) int {
	if d.wild && d.r.IntN(60) == 0 {
		return []int{n - 1, n + 1, d.any()}[d.r.IntN(3)]
	}
	return n
}

// work: of a task's job, most often about its budgets.
func (d *drawing) work(p, task int) int {
	if d.wild && d.r.IntN(60) == 0 {
		return d.any()
	}
	if !d.c.Has(p) || task < 0 || task >= len(d.c.Parts[p].Tasks) {
		return 1
	}
	x := d.c.Parts[p].Tasks[task]
	return []int{x.Lo, x.Lo, x.Top, x.Top, 1 + d.r.IntN(x.Lo), 1 + d.r.IntN(x.Top), x.Top, x.Top + 1 + d.r.IntN(3)}[d.r.IntN(8)]
}

// op: of a partition's job; to a channel of its own most often.
func (d *drawing) op(p int) tasks.Op {
	x := tasks.Op{Kind: []int{0, 1, 2, 2, 2, 2, 3, 3, 3, 4, 5}[d.r.IntN(11)], A: max(d.r.IntN(4)-1, 0), B: 1 + d.r.IntN(5)}
	if x.Kind == 2 || x.Kind == 3 {
		x.A = d.channel(p, x.Kind == 2)
	}
	if d.r.IntN(40) == 0 {
		x.Kind = []int{-1, 6, d.any()}[d.r.IntN(3)]
	}
	if d.wild && d.r.IntN(30) == 0 {
		x.A, x.B = d.any(), d.any()
	}
	return x
}

// channel: one that is from p, or to p, if there is such a one where it is looked for.
func (d *drawing) channel(p int, from bool) int {
	if len(d.c.Chans) == 0 {
		return 0
	}
	first := d.r.IntN(len(d.c.Chans))
	for i := range d.c.Chans {
		at := (first + i) % len(d.c.Chans)
		if x := d.c.Chans[at]; from && x.From == p || !from && x.To == p {
			return at
		}
	}
	return first
}

func (d *drawing) arrive(p, task int) kernel.Item {
	x := arrive(p, task, d.work(p, task))
	for range d.r.IntN(4) * d.r.IntN(5) {
		x.Ops = append(x.Ops, d.op(p))
	}
	if d.wild && d.r.IntN(100) == 0 {
		x.Ops = make([]tasks.Op, maxOps-1+d.r.IntN(3))
	}
	return x
}

// order: an item that is none of a job, or of a request; or one that may not be.
func (d *drawing) order(p int) kernel.Item {
	switch d.r.IntN(8) {
	case 0, 1, 2:
		return halt(p)
	case 3, 4, 5:
		return start(p)
	case 6:
		return mark(d.any())
	}
	if d.wild {
		return kernel.Item{Kind: []int{-1, 5, d.any()}[d.r.IntN(3)], Part: d.near(p), A: d.any(), B: d.any()}
	}
	return start(p)
}

// items: those of a tick.
func (d *drawing) items() []kernel.Item {
	var l []kernel.Item
	for p, a := range d.c.Parts {
		for task := range a.Tasks {
			if d.r.IntN(100) < d.often {
				l = append(l, d.arrive(d.near(p), d.near(task)))
			}
		}
		for server, s := range a.Servers {
			for d.r.IntN(300) < d.often {
				l = append(l, ask(d.near(p), d.near(server), 1+d.r.IntN(2*s.C)))
			}
		}
		if d.r.IntN(150) == 0 {
			l = append(l, d.order(p))
		}
		if d.down != nil && d.down(p) && d.r.IntN(15) == 0 {
			l = append(l, start(p))
		}
	}
	d.r.Shuffle(len(l), func(i, j int) { l[i], l[j] = l[j], l[i] })
	return l[:min(len(l), maxItems)]
}

// drawnStart: at 0, somewhere, or so near to MaxTick that it comes to it.
func drawnStart(r *rand.Rand) int {
	return []int{0, r.IntN(200), r.IntN(maxTick), maxTick - 150}[r.IntN(4)]
}

// counts: what came about in some runs.
type counts struct {
	kinds   map[int]int
	entries map[journal.Entry]int
	choices [5]int
}

// heed: all that one of the Kernels did.
func (n *counts) heed(b *both) {
	if n.kinds == nil {
		n.kinds, n.entries = map[int]int{}, map[journal.Entry]int{}
	}
	for p := range b.b.parts {
		for _, e := range b.k.Log(p) {
			n.kinds[e.Kind]++
			n.entries[journal.Entry{Kind: e.Kind, A: e.A, B: e.B}]++
		}
		for kind := range 5 {
			n.choices[kind] += b.k.Spent(kind, p)
		}
	}
}

// some tells which entries came too seldom.
func (n *counts) some(t *testing.T, least int, l ...journal.Entry) {
	t.Helper()
	for _, e := range l {
		if n.entries[e] < least {
			t.Errorf("%s: just %d times", told(e), n.entries[e])
		}
	}
}

// play: so many drawn ticks, held against the plain one.
func play(b *both, d *drawing, ticks int) {
	b.t.Helper()
	d.down = func(p int) bool { return !b.b.parts[p].up }
	for i := range ticks {
		b.step(d.items()...)
		if i%20 == 0 {
			b.look()
		}
		b.stop("drawn items")
	}
	b.look()
	b.stop("drawn items")
}

// Boot and Step, with all looks, against the plain one.
func TestP2503DrawnSystemsThatBoot(t *testing.T) {
	var n counts
	for seed := range uint64(1000) {
		r := rand.New(rand.NewPCG(seed, 25))
		c := drawn(r)
		for range 2 {
			b := newBoth(t, c, drawnStart(r))
			b.look()
			play(b, newDrawing(r, c), 200)
			if seed%100 == 0 {
				b.lookFar()
			}
			n.heed(b)
		}
	}
	for kind := range 15 {
		if least := 200; kind != journal.Missed && n.kinds[kind] < least || kind == journal.Missed && n.kinds[kind] > 0 {
			t.Errorf("%s: %d times", journal.Word(kind), n.kinds[kind])
		}
	}
	n.some(t, 100, seen(0, journal.Refuse, 0, int(api.ErrSoon)), seen(0, journal.Refuse, 1, int(api.ErrDropped)), seen(0, journal.Refuse, 0, int(api.ErrDown)),
		seen(0, journal.Ask, 0, 0), seen(0, journal.Ask, 0, int(api.ErrFull)), seen(0, journal.Ask, 0, int(api.ErrDown)), seen(0, journal.Ran, 100, 1),
		seen(0, journal.Fault, overrun, again), seen(0, journal.Fault, overrun, stop), seen(0, journal.Fault, odd, note), seen(0, journal.Fault, odd, again),
		seen(0, journal.Op, 2, 0), seen(0, journal.Op, 30, 0), seen(0, journal.Op, 30, 1), seen(0, journal.Op, 31, 6), seen(0, journal.Op, 31, 1), seen(0, journal.Op, 4, 0),
		seen(0, journal.Op, 5, 0), seen(0, journal.Op, 5, 1))
	for kind, some := range n.choices[:4] {
		if some < 5000 {
			t.Errorf("ticks of kind %d: %d", kind, some)
		}
	}
}

// What boots misses no job; what is done about one that is missed is seen in what does not boot.
func TestP2503DrawnSystemsThatMiss(t *testing.T) {
	var n counts
	for seed := range uint64(500) {
		r := rand.New(rand.NewPCG(seed, 26))
		c := crammed(r)
		b := laid(t, c, drawnStart(r))
		play(b, newDrawing(r, c), 200)
		n.heed(b)
	}
	for act := range 3 {
		n.some(t, 200, seen(0, journal.Fault, missed, act))
	}
	if n.kinds[journal.Missed] < 5000 {
		t.Errorf("missed: %d", n.kinds[journal.Missed])
	}
}

func TestP2503ChosenSystems(t *testing.T) {
	for seed, c := range systems() {
		for i := range 8 {
			r := rand.New(rand.NewPCG(uint64(8*seed+i), 27))
			b := newBoth(t, c, drawnStart(r))
			b.lookFar()
			play(b, newDrawing(r, c), 300)
			b.lookFar()
			b.stop("a chosen system")
		}
	}
}

// The choice, and the ledger, hang on the tick and on who can pick alone: at no tick is more than one charged.
func TestP2503EachTickIsChargedOnce(t *testing.T) {
	for seed := range uint64(100) {
		r := rand.New(rand.NewPCG(seed, 28))
		c := drawn(r)
		k, d := booted(t, c, 0), newDrawing(r, c)
		gaps := 0
		for tick := range 150 {
			told, err := k.Step(d.items()...)
			if err != api.OK {
				t.Fatal(err)
			}
			if told.Choice == (gsched.Choice{Kind: gap, Owner: -1, Runner: -1}) {
				gaps++
			}
			all, gave, got := gaps, 0, 0
			for p := range c.Parts {
				for kind := range 4 {
					all += k.Spent(kind, p)
				}
				gave += k.Spent(given, p)
				got += k.Got(p)
			}
			if all != tick+1 || gave != got {
				t.Fatalf("behind %d ticks: %d in all, %d that were given, %d that were got", tick+1, all, gave, got)
			}
		}
	}
}

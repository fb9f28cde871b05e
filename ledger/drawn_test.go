package ledger_test

import (
	"math/rand/v2"
	"testing"

	"parclose/api"
	"parclose/ledger"
)

// drawing: what a row of charges is drawn by.
type drawing struct {
	*both
	r *rand.Rand
}

func newDrawing(t *testing.T, parts int, seed uint64) *drawing {
	return &drawing{newBoth(t, parts), rand.New(rand.NewPCG(seed, uint64(parts)))}
}

// any: most often one of so many from 0 on, or one next to these.
func (d *drawing) any(count int) int {
	if d.r.IntN(20) == 0 {
		return numbers[d.r.IntN(len(numbers))]
	}
	return d.r.IntN(count+2) - 1
}

// tick: most often one that may be charged, where there are partitions.
func (d *drawing) tick() tick {
	if d.b.parts == 0 || d.r.IntN(4) == 0 {
		return tick{d.any(gap + 1), d.any(d.b.parts), d.any(d.b.parts)}
	}
	return tick{d.r.IntN(gap + 1), d.r.IntN(d.b.parts), d.r.IntN(d.b.parts)}
}

// call: a charge most often, else a look at one thing.
func (d *drawing) call() {
	switch d.r.IntN(8) {
	case 0:
		d.of(d.any(gap+1), d.any(d.b.parts))
	case 1:
		d.got(d.any(d.b.parts))
	case 2:
		d.gave(d.any(d.b.parts), d.any(d.b.parts))
	default:
		d.charge(d.tick())
		d.total()
	}
}

func TestP1502DrawnRowsOfCharges(t *testing.T) {
	for parts := range maxParts + 1 {
		for seed := range uint64(20) {
			d := newDrawing(t, parts, seed)
			for range 150 {
				d.call()
				d.look()
				d.stop("drawn charges")
			}
			d.lookFar()
			d.stop("drawn charges")
		}
	}
}

func TestP1502LongDrawnRowsOfCharges(t *testing.T) {
	for parts := range maxParts + 1 {
		for seed := range uint64(3) {
			d := newDrawing(t, parts, 100+seed)
			for i := range 3000 {
				d.call()
				if i%500 == 0 {
					d.look()
				}
				d.stop("drawn charges")
			}
			d.look()
			d.stop("drawn charges")
		}
	}
}

// eachOnce holds what a ledger tells to P1504, with so many gaps.
func eachOnce(t *testing.T, l *ledger.Ledger, gaps int) {
	t.Helper()
	all, gave, got := gaps, 0, 0
	for p := range maxParts {
		for _, kind := range []int{ledger.Own, ledger.Given, ledger.Lost, ledger.Margin, ledger.Gap} {
			all += l.Of(kind, p)
		}
		gave += l.Of(ledger.Given, p)
		got += l.Got(p)
		to, from := 0, 0
		for q := range maxParts {
			to += l.Gave(p, q)
			from += l.Gave(q, p)
		}
		if n := l.Of(ledger.Given, p); n != to {
			t.Errorf("%d gave %d, and %d one by one", p, n, to)
		}
		if n := l.Got(p); n != from {
			t.Errorf("%d got %d, and %d one by one", p, n, from)
		}
	}
	if n := l.Total(); n != all {
		t.Errorf("Total: %d, and %d of all kinds and gaps", n, all)
	}
	if gave != got {
		t.Errorf("%d were given, %d got", gave, got)
	}
}

func TestP1504EachTickOnce(t *testing.T) {
	for parts := range maxParts + 1 {
		for seed := range uint64(10) {
			d := newDrawing(t, parts, 200+seed)
			gaps, taken := 0, 0
			for range 2000 {
				x := d.tick()
				if d.l.Charge(x.kind, x.p, x.q) == api.OK {
					taken++
					if x.kind == ledger.Gap {
						gaps++
					}
				}
				if n := d.l.Total(); n != taken {
					t.Errorf("Total: %d, and %d were taken", n, taken)
				}
				eachOnce(t, d.l, gaps)
				d.stop("each once")
			}
		}
	}
}

func TestP1504EachKindByItself(t *testing.T) {
	for parts := range maxParts + 1 {
		for kind := own; kind <= gap; kind++ {
			d := newDrawing(t, parts, 300)
			gaps := 0
			for range 300 {
				err := d.l.Charge(kind, d.any(parts), d.any(parts))
				if kind == gap && err == api.OK {
					gaps++
				}
				eachOnce(t, d.l, gaps)
				d.stop("one kind")
			}
		}
	}
}

package ledger_test

import (
	"sync"
	"testing"

	"parclose/ledger"
)

func TestP1501LedgersAreApart(t *testing.T) {
	var l []*both
	for parts := range maxParts + 1 {
		l = append(l, newBoth(t, parts), newBoth(t, parts), of(t, parts, every(parts)...))
	}
	// Charges of one, and all of them are looked at.
	for i, b := range l {
		for kind := own; kind <= gap; kind++ {
			b.charge(tick{kind, i % maxParts, (i + 1 + kind) % maxParts})
			for _, other := range l {
				other.look()
			}
		}
		b.stop("apart")
	}
}

func TestP1501ACopyGoesOnApart(t *testing.T) {
	b := of(t, maxParts, every(maxParts)...)
	c := *b.l
	copied := &both{t, &c, &plain{b.b.parts, append([]tick(nil), b.b.list...)}}
	for kind := own; kind <= gap; kind++ {
		b.charge(tick{kind, 1, 4})
		b.look()
		copied.look()
		copied.charge(tick{kind, 4, 2})
		b.look()
		copied.look()
	}
}

func TestP1501TheSameChargesTellTheSame(t *testing.T) {
	// What a ledger tells hangs on its charges alone, not on their order, either.
	for parts := range maxParts + 1 {
		for seed := range uint64(5) {
			d := newDrawing(t, parts, 400+seed)
			for range 300 {
				d.call()
			}
			list := append([]tick(nil), d.b.list...)
			for range 3 {
				d.r.Shuffle(len(list), func(i, j int) { list[i], list[j] = list[j], list[i] })
				again := of(t, parts, list...)
				again.look()
				for p := range maxParts {
					for q := range maxParts {
						if a, b := d.l.Gave(p, q), again.l.Gave(p, q); a != b {
							t.Errorf("Gave(%d, %d): %d and %d", p, q, a, b)
						}
					}
				}
			}
		}
	}
}

func TestP1501EachOfManyHasItsOwnLedger(t *testing.T) {
	var group sync.WaitGroup
	for seed := range uint64(16) {
		group.Go(func() {
			d := newDrawing(t, int(seed)%(maxParts+1), 500+seed)
			for range 200 {
				d.call()
				d.look()
			}
		})
	}
	group.Wait()
}

func TestP1501ManyAskOneLedger(t *testing.T) {
	// What tells, and changes nothing, may be asked at the same time.
	b := of(t, maxParts, every(maxParts)...)
	var group sync.WaitGroup
	for range 8 {
		group.Go(func() {
			for range 50 {
				b.look()
				if n, ok := ledger.Sum(1, 2, 3); n != 6 || !ok {
					t.Errorf("Sum: %d, %v", n, ok)
				}
			}
		})
	}
	group.Wait()
}

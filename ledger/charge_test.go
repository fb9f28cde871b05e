package ledger_test

import (
	"testing"

	"parclose/api"
	"parclose/ledger"
)

func TestP1502TheChaptersExample(t *testing.T) {
	l := ledger.New(3)
	if err := l.Charge(ledger.Given, 0, 2); err != api.OK {
		t.Errorf("Charge(Given, 0, 2): %d", err)
	}
	if gave, got, total := l.Of(ledger.Given, 0), l.Got(2), l.Total(); gave != 1 || got != 1 || total != 1 {
		t.Errorf("Of(Given, 0), Got(2), Total: %d, %d, %d", gave, got, total)
	}
}

func TestP1502EachTickByItself(t *testing.T) {
	for parts := range maxParts + 1 {
		for _, x := range every(maxParts) {
			b := of(t, parts, x)
			b.lookFar()
			// And twice more.
			b.charge(x)
			b.look()
			b.charge(x)
			b.lookFar()
			b.stop("one tick")
		}
	}
}

func TestP1502ChargeOfAnything(t *testing.T) {
	for parts := range maxParts + 1 {
		b := newBoth(t, parts)
		for _, kind := range numbers {
			for _, p := range numbers {
				for _, q := range numbers {
					b.charge(tick{kind, p, q})
					b.total()
				}
				b.stop("Charge")
			}
			b.look()
		}
		b.lookFar()
		b.stop("Charge")
	}
}

// Of a ledger of three partitions.
func TestP1502WhichErrorComes(t *testing.T) {
	rows := []struct {
		kind, p, q int
		want       api.Errno
	}{
		{ledger.Own, 0, 0, api.OK}, {ledger.Own, 2, 0, api.OK}, {ledger.Own, 3, 0, api.ErrArg}, {ledger.Own, -1, 0, api.ErrArg},
		{ledger.Lost, 0, 0, api.OK}, {ledger.Lost, 2, 0, api.OK}, {ledger.Lost, 3, 0, api.ErrArg}, {ledger.Lost, -1, 0, api.ErrArg},
		{ledger.Margin, 0, 0, api.OK}, {ledger.Margin, 2, 0, api.OK}, {ledger.Margin, 3, 0, api.ErrArg}, {ledger.Margin, -1, 0, api.ErrArg},
		// None of these looks at q.
		{ledger.Own, 1, 1, api.OK}, {ledger.Own, 1, 3, api.OK}, {ledger.Own, 1, -1, api.OK},
		{ledger.Lost, 1, 1, api.OK}, {ledger.Lost, 1, 3, api.OK}, {ledger.Lost, 1, -1, api.OK},
		{ledger.Margin, 1, 1, api.OK}, {ledger.Margin, 1, 3, api.OK}, {ledger.Margin, 1, -1, api.OK},
		{ledger.Gap, 0, 0, api.OK}, {ledger.Gap, -1, -1, api.OK}, {ledger.Gap, 3, 3, api.OK}, {ledger.Gap, 6, 6, api.OK},
		{ledger.Given, 0, 1, api.OK}, {ledger.Given, 1, 0, api.OK}, {ledger.Given, 2, 0, api.OK}, {ledger.Given, 0, 2, api.OK},
		{ledger.Given, 0, 0, api.ErrArg}, {ledger.Given, 2, 2, api.ErrArg}, {ledger.Given, 3, 3, api.ErrArg}, {ledger.Given, -1, -1, api.ErrArg},
		{ledger.Given, 0, 3, api.ErrArg}, {ledger.Given, 0, -1, api.ErrArg}, {ledger.Given, 3, 0, api.ErrArg}, {ledger.Given, -1, 0, api.ErrArg},
		{ledger.Own - 1, 0, 1, api.ErrArg}, {ledger.Gap + 1, 0, 1, api.ErrArg},
	}
	for _, r := range rows {
		b := newBoth(t, 3)
		if err := b.l.Charge(r.kind, r.p, r.q); err != r.want {
			t.Errorf("Charge(%d, %d, %d): %d, not %d", r.kind, r.p, r.q, err, r.want)
		}
		b.b.charge(tick{r.kind, r.p, r.q})
		b.look()
	}
}

// refused: charges that a ledger of so many partitions takes none of.
func refused(parts int) []tick {
	var l []tick
	for _, n := range numbers {
		if n < own || n > gap {
			l = append(l, tick{n, 0, 1}, tick{n, parts - 1, 0}, tick{n, n, n})
		}
		if n < 0 || n >= parts {
			for _, kind := range []int{own, given, lost, margin} {
				l = append(l, tick{kind, n, 0}, tick{kind, n, n}, tick{kind, n, parts - 1})
			}
			l = append(l, tick{given, 0, n}, tick{given, parts - 1, n})
		}
		l = append(l, tick{given, n, n})
	}
	return l
}

func TestP1502ARefusedChargeChangesNothing(t *testing.T) {
	for parts := range maxParts + 1 {
		// Of an empty one, and of one in which no two numbers that are told are alike by chance.
		empty, some := newBoth(t, parts), newBoth(t, parts)
		for i, x := range every(parts) {
			for range i%5 + 1 {
				some.charge(x)
			}
		}
		for _, x := range refused(parts) {
			for _, b := range []*both{empty, some} {
				if err := b.l.Charge(x.kind, x.p, x.q); err != api.ErrArg {
					t.Errorf("Charge(%d, %d, %d) of %d: %d", x.kind, x.p, x.q, parts, err)
				}
				b.look()
				b.stop("a refused charge")
			}
		}
		for _, x := range every(parts) {
			some.charge(x)
		}
		some.lookFar()
		some.stop("behind refused charges")
	}
}

func TestP1502WhatIsNoneIsTold0(t *testing.T) {
	// A ledger that is full of ticks of each kind, so that an answer of something else is seen.
	for parts := range maxParts + 1 {
		b := newBoth(t, parts)
		for range 7 {
			for _, x := range every(parts) {
				b.charge(x)
			}
		}
		for _, p := range numbers {
			inside := 0 <= p && p < parts
			for _, kind := range numbers {
				if n := b.l.Of(kind, p); n != 0 && (!inside || kind < ledger.Own || kind >= ledger.Gap) {
					t.Errorf("Of(%d, %d) of %d: %d", kind, p, parts, n)
				}
			}
			if n := b.l.Got(p); n != 0 && !inside {
				t.Errorf("Got(%d) of %d: %d", p, parts, n)
			}
			if n := b.l.Gave(p, p); n != 0 {
				t.Errorf("Gave(%d, %d) of %d: %d", p, p, parts, n)
			}
			for _, q := range numbers {
				if n := b.l.Gave(p, q); n != 0 && (!inside || q < 0 || q >= parts) {
					t.Errorf("Gave(%d, %d) of %d: %d", p, q, parts, n)
				}
			}
		}
		b.lookFar()
	}
}

func TestP1502OneOfEachPair(t *testing.T) {
	// Each pair as often as no other one, so that none is told for another one.
	for parts := range maxParts + 1 {
		b := newBoth(t, parts)
		times := 0
		for p := range parts {
			for q := range parts {
				times++
				for range times {
					b.charge(tick{given, p, q})
				}
			}
		}
		for p := range parts {
			for _, kind := range []int{own, lost, margin} {
				times++
				for range times {
					b.charge(tick{kind, p, p})
				}
			}
		}
		b.lookFar()
		b.stop("pairs")
	}
}

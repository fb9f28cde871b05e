package ledger_test

import (
	"math"
	"testing"

	"parclose/api"
	"parclose/ledger"
)

// isNone holds a ledger that is none to its answers, whatever it is handed.
func isNone(t *testing.T, what string, l *ledger.Ledger) {
	t.Helper()
	for _, p := range numbers {
		for _, q := range numbers {
			for _, kind := range numbers {
				if err := l.Charge(kind, p, q); err != api.ErrArg {
					t.Errorf("%s: Charge(%d, %d, %d): %d", what, kind, p, q, err)
				}
			}
			if n := l.Of(q, p); n != 0 {
				t.Errorf("%s: Of(%d, %d): %d", what, q, p, n)
			}
			if n := l.Gave(p, q); n != 0 {
				t.Errorf("%s: Gave(%d, %d): %d", what, p, q, n)
			}
		}
		if n := l.Got(p); n != 0 {
			t.Errorf("%s: Got(%d): %d", what, p, n)
		}
		if n := l.Total(); n != 0 {
			t.Errorf("%s: Total: %d", what, n)
		}
		if t.Failed() {
			t.FailNow()
		}
	}
}

func TestP1501NilLedger(t *testing.T) {
	isNone(t, "a nil Ledger", nil)
}

func TestP1501LedgersThatNewDidNotMake(t *testing.T) {
	var l ledger.Ledger
	made := ledger.New(maxParts)
	for _, x := range every(maxParts) {
		made.Charge(x.kind, x.p, x.q)
	}
	*made = ledger.Ledger{}
	for what, a := range map[string]*ledger.Ledger{"the zero Ledger": &l, "a new Ledger": new(ledger.Ledger), "a literal": {}, "one that was made zero": made} {
		// More than once, as it stays so.
		for range 3 {
			isNone(t, what, a)
		}
	}
}

func TestP1502NewOfAnyNumber(t *testing.T) {
	rows := []struct{ asked, parts int }{
		{math.MinInt, 0}, {math.MinInt + 1, 0}, {-1 << 62, 0}, {-1 << 32, 0}, {-256, 0}, {-7, 0}, {-6, 0}, {-2, 0}, {-1, 0},
		{0, 0}, {1, 1}, {2, 2}, {3, 3}, {4, 4}, {5, 5}, {6, 6},
		{7, 6}, {8, 6}, {12, 6}, {255, 6}, {256, 6}, {257, 6}, {1 << 16, 6}, {1<<32 + 1, 6}, {1 << 62, 6}, {math.MaxInt - 1, 6}, {math.MaxInt, 6},
	}
	for _, r := range rows {
		l := ledger.New(r.asked)
		if l == nil {
			t.Fatalf("New(%d): nil", r.asked)
		}
		b := &both{t, l, &plain{parts: r.parts}}
		// Nothing is charged at first.
		b.lookFar()
		for _, x := range every(maxParts) {
			b.charge(x)
			b.total()
		}
		b.lookFar()
		if t.Failed() {
			t.Fatalf("New(%d)", r.asked)
		}
	}
}

func TestP1502WithoutPartitionsThereAreGaps(t *testing.T) {
	b := newBoth(t, 0)
	for _, p := range numbers {
		for _, q := range numbers {
			if err := b.l.Charge(ledger.Gap, p, q); err != api.OK {
				t.Errorf("Charge(Gap, %d, %d): %d", p, q, err)
			}
			b.b.charge(tick{gap, p, q})
			b.total()
		}
	}
	b.lookFar()
}

func TestP1502TheKinds(t *testing.T) {
	if l := [5]int{ledger.Own, ledger.Given, ledger.Lost, ledger.Margin, ledger.Gap}; l != [5]int{0, 1, 2, 3, 4} {
		t.Errorf("Own to Gap: %v", l)
	}
}

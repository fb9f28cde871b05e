// These tests are of the ledger's package, as no row of charges is so long that Total comes to be MaxTick.
package ledger

import (
	"testing"

	"parclose/api"
)

const mostTicks = 1 << 62

// nearly: a ledger of three partitions that lacks so many ticks of being full.
func nearly(lacks int) *Ledger {
	l := New(3)
	l.own = row{mostTicks / 8, 0, mostTicks / 8}
	l.lost = row{0, mostTicks / 8, 0}
	l.margin = row{mostTicks / 8, mostTicks / 8}
	l.gave[0] = row{0, mostTicks / 8, mostTicks / 16}
	l.gave[2] = row{mostTicks / 16, 0, 0}
	l.total = mostTicks - lacks
	return l
}

// told: all that a ledger tells.
func told(l *Ledger) []int {
	all := []int{l.Total()}
	for p := -1; p <= api.MaxParts; p++ {
		for kind := Own - 1; kind <= Gap+1; kind++ {
			all = append(all, l.Of(kind, p))
		}
		all = append(all, l.Got(p))
		for q := -1; q <= api.MaxParts; q++ {
			all = append(all, l.Gave(p, q))
		}
	}
	return all
}

func same(a, b []int) bool {
	for i := range a {
		if a[i] != b[i] {
			return false
		}
	}
	return len(a) == len(b)
}

// charges: those that a ledger of three partitions takes, while it is not full.
var charges = [][3]int{{Own, 0, 0}, {Own, 2, -1}, {Given, 0, 1}, {Given, 2, 0}, {Lost, 1, 1}, {Margin, 2, 9}, {Gap, 0, 0}, {Gap, -1, -1}, {Gap, 3, 3}}

// faults: those that it never takes.
var faults = [][3]int{
	{Own - 1, 0, 1}, {Gap + 1, 0, 1}, {Own, 3, 0}, {Own, -1, 0}, {Lost, 3, 0}, {Lost, -1, 0}, {Margin, 3, 0}, {Margin, -1, 0},
	{Given, 3, 0}, {Given, -1, 0}, {Given, 0, 3}, {Given, 0, -1}, {Given, 1, 1}, {Given, 3, 3},
}

// hold: each charge by itself, of a ledger that is made for it.
func hold(t *testing.T, lacks int, l [][3]int, want api.Errno) {
	t.Helper()
	for _, x := range l {
		a := nearly(lacks)
		was := told(a)
		if err := a.Charge(x[0], x[1], x[2]); err != want {
			t.Errorf("Charge of %v, %d lacking: %d, not %d", x, lacks, err, want)
		}
		if want != api.OK && !same(told(a), was) {
			t.Errorf("Charge of %v, %d lacking: %v, and it was %v", x, lacks, told(a), was)
		}
		if total := mostTicks - lacks + 1; want == api.OK && a.Total() != total {
			t.Errorf("Charge of %v, %d lacking: Total is %d", x, lacks, a.Total())
		}
	}
}

func TestP1502AFullLedgerTakesNone(t *testing.T) {
	if api.MaxTick != mostTicks {
		t.Fatalf("MaxTick is %d", api.MaxTick)
	}
	for _, lacks := range []int{1, 2, 1 << 20} {
		hold(t, lacks, charges, api.OK)
		hold(t, lacks, faults, api.ErrArg)
	}
	hold(t, 0, charges, api.ErrFull)
	// What may never be is told ahead of the ledger's being full.
	hold(t, 0, faults, api.ErrArg)
}

func TestP1502ThereIsRoomForJustMaxTick(t *testing.T) {
	for _, x := range charges {
		l := nearly(3)
		for i := range 6 {
			want := api.OK
			if i >= 3 {
				want = api.ErrFull
			}
			if err := l.Charge(x[0], x[1], x[2]); err != want {
				t.Errorf("%v: charge %d: %d, not %d", x, i, err, want)
			}
		}
		if l.Total() != mostTicks {
			t.Errorf("%v: Total: %d", x, l.Total())
		}
	}
}

func TestP1502AFullLedgerWithoutPartitions(t *testing.T) {
	l := New(0)
	l.total = mostTicks - 1
	for i, want := range []api.Errno{api.OK, api.ErrFull, api.ErrFull} {
		if err := l.Charge(Gap, 0, 0); err != want {
			t.Errorf("charge %d: %d, not %d", i, err, want)
		}
	}
	if err := l.Charge(Own, 0, 0); err != api.ErrArg || l.Total() != mostTicks {
		t.Errorf("Charge(Own, 0, 0): %d, Total: %d", err, l.Total())
	}
}

func TestP1504AllTicksOfOneRow(t *testing.T) {
	// All that were ever charged were given by one, or to one.
	const part = mostTicks / 4
	l := New(api.MaxParts)
	l.gave[1] = row{part, 0, part, part - 1, 0, part}
	l.total = mostTicks - 1
	if err := l.Charge(Given, 1, 3); err != api.OK {
		t.Errorf("Charge: %d", err)
	}
	if n := l.Of(Given, 1); n != mostTicks || n != l.Total() {
		t.Errorf("Of(Given, 1): %d", n)
	}
	l = New(api.MaxParts)
	for from, n := range []int{part, part, 0, part, part - 1} {
		l.gave[from][5] = n
	}
	l.total = mostTicks - 1
	if err := l.Charge(Given, 4, 5); err != api.OK {
		t.Errorf("Charge: %d", err)
	}
	if n := l.Got(5); n != mostTicks || n != l.Total() {
		t.Errorf("Got(5): %d", n)
	}
}

package supply

import (
	"math"
	"testing"

	"parclose/api"
	"parclose/conf"
	"parclose/frame"
)

// isNothing holds what a supply answers to zero answers.
func isNothing(t *testing.T, what string, s *Supply) {
	t.Helper()
	for _, n := range edges {
		if a := s.Least(n); a != 0 {
			t.Errorf("%s: Least of %d is %d", what, n, a)
		}
		if a := s.Worst(n); a != 0 {
			t.Errorf("%s: Worst of %d is %d", what, n, a)
		}
		if a, ok := s.Wait(n); a != 0 || ok {
			t.Errorf("%s: Wait of %d is %d, %v", what, n, a, ok)
		}
	}
	if a, b := s.Rate(); a != 0 || b != 0 {
		t.Errorf("%s: the rate is %d of %d", what, a, b)
	}
}

func TestP801NilSupplyAndOneThatOfDidNotMake(t *testing.T) {
	var zero Supply
	isNothing(t, "nil", nil)
	isNothing(t, "a variable", &zero)
	isNothing(t, "new", new(Supply))
	isNothing(t, "a literal", &Supply{})
	isNothing(t, "that of no table", Of(nil, 0))
	isNothing(t, "that of no partition", Of(tableOf(t, example()), 6))
}

func TestP801OfNoTable(t *testing.T) {
	none := map[string]*frame.Table{
		"nil": nil, "new": new(frame.Table), "a literal": {},
		"a frame of 0": frame.New(0, 0), "a window outside": frame.New(10, 0, conf.Window{At: 9, Len: 2}),
	}
	for what, table := range none {
		for _, p := range []int{math.MinInt, -1, 0, 1, 5, 6, math.MaxInt} {
			if s := Of(table, p); s != nil {
				t.Errorf("%s: the supply of %d is %v", what, p, s)
			}
		}
	}
}

func TestP801OfWhatCanBeAPartition(t *testing.T) {
	if api.MaxParts != 6 {
		t.Fatal("there may be more partitions, or less, than the document says")
	}
	rows := map[int]bool{
		math.MinInt: false, math.MinInt + 1: false, -1 << 32: false, -6: false, -2: false, -1: false,
		0: true, 1: true, 2: true, 3: true, 4: true, 5: true,
		6: false, 7: false, 255: false, 256: false, 1 << 32: false, 1<<32 + 1: false, math.MaxInt - 1: false, math.MaxInt: false,
	}
	for _, s := range shapes() {
		table := tableOf(t, s)
		for p, want := range rows {
			if a := Of(table, p); (a != nil) != want {
				t.Errorf("%v: the supply of %d is %v", s, p, a)
			}
		}
	}
}

// neverOpen holds the supply of a partition that nothing is open to.
func neverOpen(t *testing.T, what string, s shape, p int) {
	t.Helper()
	a := made(t, s, p)
	for _, n := range edges {
		if few := a.Least(n); few != 0 {
			t.Errorf("%s: Least of %d is %d", what, n, few)
		}
		if from := a.Worst(n); from != 0 {
			t.Errorf("%s: Worst of %d is %d", what, n, from)
		}
		if wait, ok := a.Wait(n); wait != 0 || ok != (n < 1) {
			t.Errorf("%s: Wait of %d is %d, %v", what, n, wait, ok)
		}
	}
	if open, all := a.Rate(); open != 0 || all != s.frame {
		t.Errorf("%s: the rate is %d of %d", what, open, all)
	}
}

func TestP801NoWindowAndNoOpenTicks(t *testing.T) {
	neverOpen(t, "a frame of 1 without windows", shape{1, 0, nil}, 0)
	neverOpen(t, "a frame of 256 without windows", shape{256, 8, nil}, 5)
	for p := 1; p < 6; p++ {
		neverOpen(t, "windows of another one", example(), p)
	}
	neverOpen(t, "a window as long as the margin", shape{10, 3, []conf.Window{{At: 3, Len: 3, Part: 0}}}, 0)
	neverOpen(t, "a window that is shorter than the margin", shape{10, 4, []conf.Window{{At: 3, Len: 3, Part: 0}}}, 0)
}

// alwaysOpen holds the supply of a partition that all ticks are open to.
func alwaysOpen(t *testing.T, what string, s shape, p int) {
	t.Helper()
	a := made(t, s, p)
	for _, n := range edges {
		if few, want := a.Least(n), max(0, min(n, 1<<50)); few != want {
			t.Errorf("%s: Least of %d is %d", what, n, few)
		}
		if from := a.Worst(n); from != 0 {
			t.Errorf("%s: Worst of %d is %d", what, n, from)
		}
		want, found := max(0, n), true
		if n > 1<<40 {
			want, found = 0, false
		}
		if wait, ok := a.Wait(n); wait != want || ok != found {
			t.Errorf("%s: Wait of %d is %d, %v", what, n, wait, ok)
		}
	}
	if open, all := a.Rate(); open != s.frame || all != s.frame {
		t.Errorf("%s: the rate is %d of %d", what, open, all)
	}
}

func TestP801AllTicksOpen(t *testing.T) {
	alwaysOpen(t, "a frame of 1", shape{1, 0, []conf.Window{{At: 0, Len: 1, Part: 5}}}, 5)
	alwaysOpen(t, "one window", shape{10, 0, []conf.Window{{At: 0, Len: 10, Part: 3}}}, 3)
	alwaysOpen(t, "three windows", shape{10, 0, []conf.Window{{At: 0, Len: 4, Part: 0}, {At: 4, Len: 1, Part: 0}, {At: 5, Len: 5, Part: 0}}}, 0)
	alwaysOpen(t, "a frame of 256", shape{256, 0, []conf.Window{{At: 0, Len: 256, Part: 0}}}, 0)
}

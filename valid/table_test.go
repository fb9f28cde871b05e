package valid

import (
	"fmt"
	"math"
	"testing"

	"parclose/api"
	"parclose/conf"
	"parclose/frame"
)

// holds a table against that of some windows: each tick of some frames, and ticks far out.
func holds(t *testing.T, what string, table *frame.Table, c conf.Config) {
	t.Helper()
	want := frame.New(c.Frame, c.Margin, c.Windows...)
	if table == nil || want == nil {
		t.Errorf("%s: a table: %v, and of the windows: %v", what, table != nil, want != nil)
		return
	}
	if n := table.Frame(); n != c.Frame {
		t.Errorf("%s: a frame of %d", what, n)
	}
	ticks := append([]int{}, edges...)
	for tick := -c.Frame; tick < 2*c.Frame; tick++ {
		ticks = append(ticks, tick)
	}
	for _, tick := range ticks {
		p, kind := table.Owner(tick)
		if q, k := want.Owner(tick); p != q || kind != k {
			t.Errorf("%s: the owner of %d is %d, %d; not %d, %d", what, tick, p, kind, q, k)
		}
	}
	for p := -2; p < 9; p++ {
		if n := table.Offered(p); n != want.Offered(p) {
			t.Errorf("%s: %d is offered %d, not %d", what, p, n, want.Offered(p))
		}
	}
}

func TestP603TheTableOfAFewTicks(t *testing.T) {
	c := conf.Config{Frame: 10, Margin: 1, Windows: []conf.Window{{At: 2, Len: 4, Part: 0}, {At: 6, Len: 1, Part: 1}, {At: 8, Len: 2, Part: 1}}, Parts: make([]conf.Part, 2)}
	table := Table(c)
	if table.Frame() != 10 || table.Offered(0) != 3 || table.Offered(1) != 1 || table.Offered(2) != 0 {
		t.Errorf("frame %d, offered %d, %d, %d", table.Frame(), table.Offered(0), table.Offered(1), table.Offered(2))
	}
	owners := [][2]int{{-1, 0}, {-1, 0}, {0, 1}, {0, 2}, {0, 2}, {0, 2}, {1, 1}, {-1, 0}, {1, 1}, {1, 2}}
	for tick, want := range owners {
		if p, kind := table.Owner(tick); p != want[0] || kind != want[1] {
			t.Errorf("the owner of %d is %d, %d; not %v", tick, p, kind, want)
		}
	}
}

func TestP603NilJustWhereASystemMayNotBe(t *testing.T) {
	nils, tables := 0, 0
	for i, c := range systems() {
		what := fmt.Sprint("drawn system ", i)
		err, _ := Check(c)
		if err != api.OK {
			nils++
			if Table(c) != nil {
				t.Errorf("%s: a table, but error %d", what, err)
			}
			continue
		}
		tables++
		holds(t, what, Table(c), c)
	}
	if nils < 500 || tables < 500 {
		t.Errorf("%d have no table, %d have one", nils, tables)
	}
}

func TestP603NilAtEachError(t *testing.T) {
	for _, g := range groups() {
		for _, f := range g {
			c := full()
			f.do(&c)
			if Table(c) != nil {
				t.Errorf("%s: a table", f.what)
			}
		}
	}
	if Table(conf.Config{}) != nil || Table(conf.Config{Frame: 10}) != nil || Table(conf.Config{Frame: math.MaxInt, Parts: make([]conf.Part, 1)}) != nil {
		t.Error("a system that may not be has a table")
	}
}

func TestP603SystemsThatMayBe(t *testing.T) {
	for _, c := range []conf.Config{small(), full(), {Frame: 1, Parts: make([]conf.Part, 1)}, {Frame: 256, Margin: 8, Windows: []conf.Window{}, Parts: make([]conf.Part, 6)}} {
		for range 2 {
			holds(t, "one that may be", Table(c), c)
		}
	}
}

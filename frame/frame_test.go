package frame

import (
	"math"
	"reflect"
	"testing"

	"parclose/api"
	"parclose/conf"
)

func TestP401NilTableAndOneThatNewDidNotMake(t *testing.T) {
	for what, table := range map[string]*Table{"nil": nil, "new": new(Table), "a literal": {}} {
		for _, a := range edges {
			if p, kind := table.Owner(a); p != -1 || kind != Gap {
				t.Errorf("%s: the owner of %d is %d, %d", what, a, p, kind)
			}
			for _, p := range partitions {
				if n := table.Offered(p); n != 0 {
					t.Errorf("%s: %d is offered %d", what, p, n)
				}
				if n, ok := table.Next(p, a); n != 0 || ok {
					t.Errorf("%s: the next one of %d from %d on is %d, %v", what, p, a, n, ok)
				}
				for _, b := range edges {
					if n := table.Count(p, a, b); n != 0 {
						t.Errorf("%s: of %d ticks from %d on %d are open to %d", what, b, a, n, p)
					}
				}
			}
		}
		if n := table.Frame(); n != 0 {
			t.Errorf("%s: a frame of %d", what, n)
		}
	}
}

func TestP401WhatIsHandedInIsLeftAlone(t *testing.T) {
	handed := func() []conf.Window {
		return []conf.Window{{At: 2, Len: 4, Part: 0}, {At: 6, Len: 2, Part: 1}, {At: 8, Len: 2, Part: 2}, {At: -1, Len: -1, Part: -1}, {At: 99, Len: 99, Part: 99}}
	}
	for n := range 6 {
		l := handed()
		table := New(10, 1, l[:n]...)
		if (table == nil) != (n > 3) {
			t.Fatalf("of %d windows: %v", n, table)
		}
		table.Owner(3)
		table.Offered(0)
		table.Count(1, -5, 25)
		table.Next(2, 9)
		table.Frame()
		if !reflect.DeepEqual(l, handed()) {
			t.Errorf("of %d windows: they are %v now", n, l)
		}
	}
}

func TestP401ATableDoesNotSeeWhatIsChangedLater(t *testing.T) {
	for n := range 4 {
		s := shape{10, 1, []conf.Window{{At: 0, Len: 4, Part: 0}, {At: 4, Len: 2, Part: 1}, {At: 7, Len: 3, Part: 0}}[:n]}
		l := append(make([]conf.Window, 0, 9), s.list...)
		table := New(10, 1, l...)
		room := l[:9]
		for i := range room {
			room[i] = conf.Window{At: i, Len: 1, Part: 5}
		}
		holds(t, s, table, edges)
	}
}

func TestP401WhatIsAskedChangesNothing(t *testing.T) {
	s := full()
	table := made(t, s)
	for range 3 {
		holds(t, s, table, edges)
	}
}

func TestP401TablesAreApart(t *testing.T) {
	a := shape{10, 1, []conf.Window{{At: 2, Len: 4, Part: 0}}}
	b := shape{12, 0, []conf.Window{{At: 0, Len: 4, Part: 1}, {At: 5, Len: 4, Part: 0}}}
	first, second := made(t, a), made(t, b)
	holds(t, a, first, edges)
	holds(t, b, second, edges)
	holds(t, a, first, edges)
}

func TestP402TheNumbersOfItsKindsAndLimits(t *testing.T) {
	if Gap != 0 || Margin != 1 || Open != 2 {
		t.Error("kinds are of other numbers than the document says")
	}
	if api.MaxFrame != 256 || api.MaxMargin != 8 || api.MaxWindows != 32 || api.MaxParts != 6 || api.MaxTick != 1<<62 {
		t.Error("numbers that the document gives are other ones")
	}
}

// ones: so many windows of one tick, from 0 on.
func ones(n int) []conf.Window {
	var l []conf.Window
	for i := range n {
		l = append(l, conf.Window{At: i, Len: 1, Part: i % 6})
	}
	return l
}

func TestP402FrameMarginAndHowManyWindows(t *testing.T) {
	rows := []struct {
		frame, margin, windows int
		want                   bool
	}{
		{0, 0, 0, false},
		{1, 0, 0, true},
		{2, 0, 0, true},
		{255, 0, 0, true},
		{256, 0, 0, true},
		{257, 0, 0, false},
		{-1, 0, 0, false},
		{math.MinInt, 0, 0, false},
		{math.MaxInt, 0, 0, false},
		{1 << 32, 0, 0, false},
		{1<<32 + 10, 0, 0, false},
		{10, -1, 0, false},
		{10, 1, 0, true},
		{10, 7, 0, true},
		{10, 8, 0, true},
		{10, 9, 0, false},
		{10, math.MinInt, 0, false},
		{10, math.MaxInt, 0, false},
		{10, 1 << 32, 0, false},
		{1, 8, 0, true},
		{1, 8, 1, true},
		{256, 8, 1, true},
		{256, 8, 31, true},
		{256, 8, 32, true},
		{256, 8, 33, false},
		{256, 8, 34, false},
		{256, 8, 256, false},
		{256, 0, 32, true},
		{32, 0, 32, true},
		{31, 0, 32, false},
		{33, 0, 33, false},
		{0, 0, 1, false},
		{257, 0, 1, false},
		{256, 9, 1, false},
		{256, -1, 1, false},
	}
	for _, r := range rows {
		if table := New(r.frame, r.margin, ones(r.windows)...); (table != nil) != r.want {
			t.Errorf("frame %d, margin %d, %d windows: %v", r.frame, r.margin, r.windows, table)
		}
	}
	if New(10, 1) == nil || New(10, 1, []conf.Window{}...) == nil || New(10, 1, nil...) == nil {
		t.Error("no windows, in one of three ways, are no table")
	}
	if New(256, 0, make([]conf.Window, 1<<20)...) != nil {
		t.Error("very many windows are a table")
	}
}

func TestP402EachFrameWithEachMargin(t *testing.T) {
	for frame := -3; frame < 300; frame++ {
		for margin := -3; margin < 20; margin++ {
			want := frame >= 1 && frame <= 256 && margin >= 0 && margin <= 8
			if table := New(frame, margin); (table != nil) != want {
				t.Errorf("frame %d, margin %d: %v", frame, margin, table)
			}
		}
	}
}

// row: windows of which each is told by its At, Len and Part.
func row(l ...[3]int) []conf.Window {
	var windows []conf.Window
	for _, n := range l {
		windows = append(windows, conf.Window{At: n[0], Len: n[1], Part: n[2]})
	}
	return windows
}

func TestP402Windows(t *testing.T) {
	rows := []struct {
		what string
		l    [][3]int
		want bool
	}{
		{"one in between", [][3]int{{2, 4, 0}}, true},
		{"the whole frame", [][3]int{{0, 10, 0}}, true},
		{"one tick more than the frame", [][3]int{{0, 11, 0}}, false},
		{"one tick at its beginning", [][3]int{{0, 1, 0}}, true},
		{"one tick at its end", [][3]int{{9, 1, 0}}, true},
		{"one tick behind it", [][3]int{{10, 1, 0}}, false},
		{"two ticks at its end", [][3]int{{9, 2, 0}}, false},
		{"ends just with it", [][3]int{{4, 6, 0}}, true},
		{"leads out of it", [][3]int{{4, 7, 0}}, false},
		{"begins ahead of it", [][3]int{{-1, 4, 0}}, false},
		{"the second one leads out of it", [][3]int{{0, 4, 0}, {4, 7, 0}}, false},

		{"no ticks", [][3]int{{2, 0, 0}}, false},
		{"no ticks at 0", [][3]int{{0, 0, 0}}, false},
		{"no ticks at the end", [][3]int{{10, 0, 0}}, false},
		{"ticks below 0", [][3]int{{2, -1, 0}}, false},
		{"no ticks behind another one", [][3]int{{2, 4, 0}, {6, 0, 0}}, false},
		{"no ticks ahead of another one", [][3]int{{2, 0, 0}, {6, 1, 0}}, false},

		{"just at the end of the one ahead", [][3]int{{2, 4, 0}, {6, 2, 1}}, true},
		{"a tick behind it", [][3]int{{2, 4, 0}, {7, 2, 1}}, true},
		{"a tick ahead of it", [][3]int{{2, 4, 0}, {5, 2, 1}}, false},
		{"with the one ahead", [][3]int{{2, 4, 0}, {2, 4, 0}}, false},
		{"in the one ahead", [][3]int{{2, 4, 0}, {3, 1, 0}}, false},
		{"over the one ahead", [][3]int{{2, 4, 0}, {1, 6, 0}}, false},
		{"ahead of the one ahead", [][3]int{{4, 2, 0}, {1, 2, 0}}, false},
		{"just ahead of the one ahead", [][3]int{{4, 2, 0}, {3, 1, 0}}, false},
		{"the third one on the second", [][3]int{{0, 2, 0}, {4, 4, 0}, {7, 2, 0}}, false},
		{"the third one on the first", [][3]int{{0, 2, 0}, {4, 4, 0}, {1, 2, 0}}, false},
		{"three in a row", [][3]int{{0, 2, 0}, {2, 7, 0}, {9, 1, 0}}, true},

		{"partition -1", [][3]int{{2, 4, -1}}, false},
		{"partition 1", [][3]int{{2, 4, 1}}, true},
		{"partition 5", [][3]int{{2, 4, 5}}, true},
		{"partition 6", [][3]int{{2, 4, 6}}, false},
		{"partition 7", [][3]int{{2, 4, 7}}, false},
		{"the least partition", [][3]int{{2, 4, math.MinInt}}, false},
		{"the greatest partition", [][3]int{{2, 4, math.MaxInt}}, false},
		{"partition 2^32", [][3]int{{2, 4, 1 << 32}}, false},
		{"the second one's partition 6", [][3]int{{0, 2, 0}, {2, 4, 6}}, false},
		{"the first one's partition -1", [][3]int{{0, 2, -1}, {2, 4, 0}}, false},

		{"the least At", [][3]int{{math.MinInt, 4, 0}}, false},
		{"the greatest At", [][3]int{{math.MaxInt, 4, 0}}, false},
		{"the least Len", [][3]int{{2, math.MinInt, 0}}, false},
		{"the greatest Len", [][3]int{{2, math.MaxInt, 0}}, false},
		{"both the greatest", [][3]int{{math.MaxInt, math.MaxInt, 0}}, false},
		{"both the least", [][3]int{{math.MinInt, math.MinInt, 0}}, false},
		{"the greatest and the least", [][3]int{{math.MaxInt, math.MinInt, 0}}, false},
		{"the least and the greatest", [][3]int{{math.MinInt, math.MaxInt, 0}}, false},
		{"together a tick", [][3]int{{-math.MaxInt, math.MaxInt, 0}, {1, 2, 0}}, false},
		{"both 2^62", [][3]int{{1 << 62, 1 << 62, 0}}, false},
		{"2^32 and 2^32", [][3]int{{1 << 32, 1 << 32, 0}}, false},
		{"huge ones behind another one", [][3]int{{2, 4, 0}, {6, math.MaxInt, 0}}, false},
		{"huge ones ahead of another one", [][3]int{{2, math.MaxInt, 0}, {6, 2, 0}}, false},
	}
	for _, r := range rows {
		for range 2 {
			if table := New(10, 1, row(r.l...)...); (table != nil) != r.want {
				t.Errorf("%s: %v: %v", r.what, r.l, table)
			}
		}
	}
}

// mayBe: the chapter's sentence, of each tick of each window, for small numbers.
func mayBe(frame int, l []conf.Window) bool {
	next := 0
	for _, w := range l {
		if w.Len < 1 || w.Part < 0 || w.Part > 5 {
			return false
		}
		for i := range w.Len {
			tick := w.At + i
			if tick < next || tick < 0 || tick > frame-1 {
				return false
			}
		}
		next = w.At + w.Len
	}
	return true
}

func TestP402WindowsOfSmallNumbers(t *testing.T) {
	tables := 0
	for i := range 7 * 7 * 7 * 7 * 8 {
		l := []conf.Window{{At: i%7 - 1, Len: i/7%7 - 1, Part: i/2401 - 1}, {At: i/49%7 - 1, Len: i/343%7 - 1, Part: 6 - i/2401}}
		for frame := 1; frame < 7; frame++ {
			table := New(frame, 1, l...)
			if (table != nil) != mayBe(frame, l) {
				t.Fatalf("frame %d, %v: %v", frame, l, table)
			}
			if table != nil {
				tables++
			}
		}
	}
	if tables == 0 {
		t.Error("none of them may be")
	}
}

func TestP402WindowsOfNumbersAtTheEdges(t *testing.T) {
	for _, at := range edges {
		for _, length := range edges {
			for _, p := range partitions {
				inside := at >= 0 && at < 256 && length >= 1 && length <= 256 && at+length <= 256
				want := inside && p >= 0 && p < 6
				if table := New(256, 0, conf.Window{At: at, Len: length, Part: p}); (table != nil) != want {
					t.Errorf("a window of %d from %d on, of %d: %v", length, at, p, table)
				}
				// Behind another one, which its end, if that wrapped round, might be ahead of.
				if table := New(256, 0, conf.Window{At: at, Len: length, Part: p}, conf.Window{At: 255, Len: 1}); (table != nil) != (want && at+length < 256) {
					t.Errorf("a window of %d from %d on, of %d, ahead of the last tick: %v", length, at, p, table)
				}
			}
		}
	}
}

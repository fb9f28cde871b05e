package frame

import (
	"math"
	"math/rand/v2"
	"testing"

	"parclose/conf"
)

// several: a gap ahead, windows of 0 about one of 1, one of 2 that is all margin, and a gap behind. The margin is 2.
//
//	tick  0 1 2 3 4 5 6 7 8 9 10 11 12 13 14 15 16 17 18 19
//	      . m m 0 0 m m 1 m m  0  0  0  .  m  .  m  m  0  .
var several = shape{20, 2, row([3]int{1, 4, 0}, [3]int{5, 3, 1}, [3]int{8, 5, 0}, [3]int{14, 1, 2}, [3]int{16, 3, 0})}

func TestP403TheChaptersExample(t *testing.T) {
	table := New(10, 1, conf.Window{At: 2, Len: 4, Part: 0})
	for tick := range 10 {
		owner, kind := -1, Gap
		switch {
		case tick == 2:
			owner, kind = 0, Margin
		case tick >= 3 && tick <= 5:
			owner, kind = 0, Open
		}
		if p, k := table.Owner(tick); p != owner || k != kind {
			t.Errorf("the owner of %d is %d, %d", tick, p, k)
		}
	}
	if table.Offered(0) != 3 || table.Count(0, 0, 10) != 3 || table.Count(0, 3, 3) != 3 || table.Frame() != 10 {
		t.Error("not three of ten are open to 0")
	}
}

func TestP403Owner(t *testing.T) {
	table := made(t, several)
	rows := []struct{ tick, p, kind int }{
		{0, -1, Gap},
		{1, 0, Margin},
		{2, 0, Margin},
		{3, 0, Open},
		{4, 0, Open},
		{5, 1, Margin},
		{6, 1, Margin},
		{7, 1, Open},
		{8, 0, Margin},
		{12, 0, Open},
		{13, -1, Gap},
		{14, 2, Margin},
		{15, -1, Gap},
		{16, 0, Margin},
		{17, 0, Margin},
		{18, 0, Open},
		{19, -1, Gap},
		{20, -1, Gap},
		{23, 0, Open},
		{34, 2, Margin},
		{-1, -1, Gap},
		{-2, 0, Open},
		{-3, 0, Margin},
		{-6, 2, Margin},
		{-13, 1, Open},
		{-17, 0, Open},
		{-20, -1, Gap},
		{-22, 0, Open},
		// 2^62 is 4 behind a frame's beginning, 2^63 - 1 is 7 behind one, and -2^63 is 12 behind one.
		{1 << 62, 0, Open},
		{1<<62 + 1, 1, Margin},
		{-1 << 62, 0, Margin},
		{math.MaxInt, 1, Open},
		{math.MaxInt - 3, 0, Open},
		{math.MaxInt - 7, -1, Gap},
		{math.MinInt, 0, Open},
		{math.MinInt + 1, -1, Gap},
		{math.MinInt + 2, 2, Margin},
		{math.MinInt + 8, -1, Gap},
		{1000000000000000007, 1, Open},
		{-1000000000000000000 + 18, 0, Open},
	}
	for _, r := range rows {
		if p, kind := table.Owner(r.tick); p != r.p || kind != r.kind {
			t.Errorf("the owner of %d is %d, %d; not %d, %d", r.tick, p, kind, r.p, r.kind)
		}
	}
}

func TestP403OwnerWhereTheWindowIsShorterThanTheMargin(t *testing.T) {
	for length := 1; length <= 10; length++ {
		table := New(20, 8, conf.Window{At: 3, Len: length, Part: 4}, conf.Window{At: 3 + length, Len: 7, Part: 5})
		for tick := range 20 {
			owner, kind := -1, Gap
			switch {
			case tick >= 3 && tick < 3+length:
				owner, kind = 4, Margin
				if tick >= 11 {
					kind = Open
				}
			case tick >= 3+length && tick < 10+length:
				owner, kind = 5, Margin
			}
			if p, k := table.Owner(tick); p != owner || k != kind {
				t.Errorf("a window of %d: the owner of %d is %d, %d; not %d, %d", length, tick, p, k, owner, kind)
			}
		}
		if n := table.Offered(4); n != max(0, length-8) {
			t.Errorf("a window of %d: %d are offered", length, n)
		}
		if n, ok := table.Next(5, 0); n != 0 || ok || table.Offered(5) != 0 || table.Count(5, 0, 1000) != 0 {
			t.Errorf("a window of %d: the next one of 5 is %d, %v", length, n, ok)
		}
	}
}

func TestP403Offered(t *testing.T) {
	table := made(t, several)
	for _, p := range partitions {
		want := 0
		switch p {
		case 0:
			want = 6
		case 1:
			want = 1
		}
		if n := table.Offered(p); n != want {
			t.Errorf("%d is offered %d, not %d", p, n, want)
		}
	}
	empty := New(10, 1)
	for _, p := range partitions {
		if n := empty.Offered(p); n != 0 {
			t.Errorf("without windows %d is offered %d", p, n)
		}
	}
}

func TestP403Count(t *testing.T) {
	table := made(t, several)
	rows := []struct{ p, from, n, want int }{
		{0, 0, 0, 0},
		{0, 3, 0, 0},
		{0, 3, -1, 0},
		{0, 3, -20, 0},
		{0, 3, math.MinInt, 0},
		{0, 3, 1, 1},
		{0, 2, 1, 0},
		{0, 4, 1, 1},
		{0, 5, 1, 0},
		{0, 0, 4, 1},
		{0, 0, 5, 2},
		{0, 4, 7, 2},
		{0, 4, 6, 1},
		{0, 11, 2, 2},
		{0, 0, 20, 6},
		{0, 18, 5, 1},
		{0, 18, 6, 2},
		{0, 18, 7, 3},
		{0, 19, 20, 6},
		{0, 19, 19, 5},
		{0, 18, 20, 6},
		{0, 18, 21, 7},
		{0, 12, 40, 12},
		{0, 12, 41, 13},
		{1, 7, 1, 1},
		{1, 8, 19, 0},
		{1, 8, 20, 1},
		{1, 7, 41, 3},
		{2, 0, 1000, 0},
		{5, 0, 1000, 0},
		{-1, 0, 1000, 0},
		{6, 0, 1000, 0},
		{0, -2, 1, 1},
		{0, -2, 5, 1},
		{0, -2, 6, 2},
		{0, -20, 20, 6},
		{0, -17, 20, 6},
		{0, -1000, 2000, 600},
		{0, -1, 4, 0},
		{0, -1, 5, 1},
		// These are 230584300921369395 frames, and 4 ticks.
		{0, 0, 1 << 62, 1383505805528216371},
		{0, 0, 1<<62 + 1, 1383505805528216371},
		{0, 0, math.MaxInt, 1383505805528216371},
		{1, 0, 1 << 62, 230584300921369395},
		{1, 4, 1 << 62, 230584300921369396},
		{1, math.MaxInt, 1, 1},
		{1, math.MaxInt, 20, 1},
		{1, math.MaxInt, 21, 2},
		{1, math.MaxInt, math.MaxInt, 230584300921369396},
		{1, math.MinInt, 20, 1},
		{0, math.MinInt, 1, 1},
		{0, math.MinInt, 2, 1},
		{0, math.MinInt, math.MinInt, 0},
	}
	for _, r := range rows {
		if n := table.Count(r.p, r.from, r.n); n != r.want {
			t.Errorf("of %d ticks from %d on %d are open to %d, not %d", r.n, r.from, n, r.p, r.want)
		}
	}
}

func TestP403CountOfAllTicks(t *testing.T) {
	table := New(1, 0, conf.Window{At: 0, Len: 1, Part: 0})
	for _, from := range edges {
		for _, n := range edges {
			want := max(0, min(n, 1<<62))
			if got := table.Count(0, from, n); got != want {
				t.Errorf("of %d ticks from %d on %d are open", n, from, got)
			}
		}
	}
}

func TestP403Next(t *testing.T) {
	table := made(t, several)
	rows := []struct {
		p, tick, want int
		ok            bool
	}{
		{0, 0, 3, true},
		{0, 1, 3, true},
		{0, 3, 3, true},
		{0, 4, 4, true},
		{0, 5, 10, true},
		{0, 12, 12, true},
		{0, 13, 18, true},
		{0, 18, 18, true},
		{0, 19, 23, true},
		{0, 20, 23, true},
		{0, 39, 43, true},
		{1, 7, 7, true},
		{1, 8, 27, true},
		{1, 0, 7, true},
		{2, 0, 0, false},
		{2, 14, 0, false},
		{3, 0, 0, false},
		{-1, 0, 0, false},
		{6, 0, 0, false},
		{math.MinInt, 0, 0, false},
		{math.MaxInt, 0, 0, false},
		{0, -1, 3, true},
		{0, -2, -2, true},
		{0, -3, -2, true},
		{0, -20, -17, true},
		{1, -1, 7, true},
		{1, -12, 7, true},
		{1, -13, -13, true},
		{1, -14, -13, true},
		{0, math.MinInt, math.MinInt, true},
		{0, math.MinInt + 1, math.MinInt + 6, true},
		{1, math.MinInt, math.MinInt + 15, true},
		{2, math.MinInt, 0, false},
		// 2^62 is 4 behind a frame's beginning.
		{0, 1<<62 - 1, 1<<62 - 1, true},
		{0, 1 << 62, 1 << 62, true},
		{0, 1<<62 + 1, 1 << 62, true},
		{0, math.MaxInt, 1 << 62, true},
		{1, 1<<62 - 1, 1<<62 + 3, true},
		{1, 1 << 62, 1<<62 + 3, true},
		{1, 1<<62 + 4, 1<<62 + 3, true},
		{1, math.MaxInt, 1<<62 + 3, true},
		{2, 1 << 62, 0, false},
		{2, math.MaxInt, 0, false},
	}
	for _, r := range rows {
		if n, ok := table.Next(r.p, r.tick); n != r.want || ok != r.ok {
			t.Errorf("the next one of %d from %d on is %d, %v; not %d, %v", r.p, r.tick, n, ok, r.want, r.ok)
		}
	}
}

func TestP403NextIsAFrameLaterAtMost(t *testing.T) {
	table := New(256, 0, conf.Window{At: 255, Len: 1, Part: 0}, conf.Window{At: 255, Len: 1, Part: 0})
	if table != nil {
		t.Fatal("two windows at one tick")
	}
	table = New(256, 0, conf.Window{At: 255, Len: 1, Part: 0})
	rows := []struct{ tick, want int }{
		{0, 255}, {255, 255}, {256, 511}, {-1, -1}, {-2, -1}, {-256, -1}, {-257, -257},
		{1 << 62, 1<<62 + 255}, {1<<62 - 1, 1<<62 - 1}, {math.MaxInt, 1<<62 + 255}, {math.MinInt, math.MinInt + 255},
	}
	for _, r := range rows {
		if n, ok := table.Next(0, r.tick); n != r.want || !ok {
			t.Errorf("the next one from %d on is %d, %v; not %d", r.tick, n, ok, r.want)
		}
	}
}

func TestP403Frame(t *testing.T) {
	for n := 1; n <= 256; n++ {
		if got := New(n, 3).Frame(); got != n {
			t.Errorf("a frame of %d is one of %d", n, got)
		}
	}
}

func TestP403AgainstWhatWasLookedAt(t *testing.T) {
	for _, s := range shapes() {
		holds(t, s, made(t, s), edges)
	}
}

// near: ticks about 0, and some that are far off.
func near(r *rand.Rand, frame int) []int {
	l := []int{-frame - 1, -frame, -1, 0, 1, frame - 1, frame}
	for range 6 {
		l = append(l, r.IntN(4*frame)-2*frame, int(r.Uint64()>>2), -int(r.Uint64()>>2))
	}
	return l
}

func TestP404ATickAndTheOneAFrameLater(t *testing.T) {
	r := rand.New(rand.NewPCG(1, 404))
	for _, s := range shapes() {
		table := made(t, s)
		for _, tick := range near(r, s.frame) {
			p, kind := table.Owner(tick)
			q, same := table.Owner(tick + s.frame)
			if p != q || kind != same {
				t.Errorf("%v: of %d: %d, %d; a frame later %d, %d", s, tick, p, kind, q, same)
			}
			for _, p := range partitions {
				n, ok := table.Next(p, tick)
				m, still := table.Next(p, tick+s.frame)
				// What is above 2^62 is told as 2^62.
				if tick+s.frame <= 1<<62 && (ok != still || ok && m != n+s.frame) {
					t.Errorf("%v: the next one of %d from %d on is %d, %v; a frame later %d, %v", s, p, tick, n, ok, m, still)
				}
			}
		}
	}
}

func TestP404AFrameFromAnyTickOn(t *testing.T) {
	r := rand.New(rand.NewPCG(2, 404))
	for _, s := range shapes() {
		table := made(t, s)
		for _, p := range partitions {
			for _, tick := range append(near(r, s.frame), edges...) {
				for _, frames := range []int{1, 2, 7, 1 << 40} {
					if n := table.Count(p, tick, frames*s.frame); n != frames*table.Offered(p) {
						t.Errorf("%v: in %d frames from %d on %d are open to %d, and %d are offered in each", s, frames, tick, n, p, table.Offered(p))
					}
				}
			}
			if n := table.Offered(p); n < 0 || n > s.frame {
				t.Errorf("%v: %d is offered %d", s, p, n)
			}
		}
	}
}

// oneByOne: how many of the ticks Owner tells to be open to p.
func oneByOne(table *Table, p, from, n int) int {
	open := 0
	for i := range n {
		if q, kind := table.Owner(from + i); q == p && kind == Open {
			open++
		}
	}
	return open
}

func TestP404CountAgainstTheTicksOneByOne(t *testing.T) {
	r := rand.New(rand.NewPCG(3, 404))
	for _, s := range shapes() {
		table := made(t, s)
		for _, from := range near(r, s.frame) {
			for _, p := range []int{-1, 0, 1, 2, 3, 4, 5, 6} {
				n := r.IntN(3*s.frame + 2)
				if got := table.Count(p, from, n); got != oneByOne(table, p, from, n) {
					t.Errorf("%v: of %d ticks from %d on %d are open to %d, not %d", s, n, from, got, p, oneByOne(table, p, from, n))
				}
			}
		}
	}
}

func TestP404CountOfSmallTablesFromEachTickOn(t *testing.T) {
	for _, s := range []shape{several, {10, 1, []conf.Window{{At: 2, Len: 4, Part: 0}}}, {7, 0, []conf.Window{{At: 0, Len: 2, Part: 0}, {At: 5, Len: 2, Part: 0}}}} {
		table := made(t, s)
		for from := -2*s.frame - 1; from <= 2*s.frame+1; from++ {
			for n := range 3*s.frame + 2 {
				if got := table.Count(0, from, n); got != oneByOne(table, 0, from, n) {
					t.Errorf("%v: of %d ticks from %d on %d are open, not %d", s, n, from, got, oneByOne(table, 0, from, n))
				}
			}
		}
	}
}

package frame

import (
	"fmt"
	"math"
	"math/big"
	"math/rand/v2"
	"testing"

	"parclose/conf"
)

// edges: numbers about which an answer may turn, or an int wrap round.
var edges = []int{
	math.MinInt, math.MinInt + 1, math.MinInt + 255, -1<<62 - 1, -1 << 62, -1<<62 + 1, -1 << 32, -257, -256, -255, -11, -10, -9, -8, -2, -1,
	0, 1, 2, 3, 5, 6, 9, 10, 11, 15, 16, 255, 256, 257, 1000, 1 << 31, 1 << 32, 1<<32 + 1,
	1<<62 - 257, 1<<62 - 1, 1 << 62, 1<<62 + 1, 1<<62 + 257, math.MaxInt - 256, math.MaxInt - 1, math.MaxInt,
}

// partitions: all there are, and numbers that are none.
var partitions = []int{math.MinInt, -7, -2, -1, 0, 1, 2, 3, 4, 5, 6, 7, 256, 1 << 32, math.MaxInt}

// looked: what the chapter's words say of each place of a frame, looked at one by one.
type looked struct {
	frame int
	part  []int
	kind  []int
}

func look(frame, margin int, l []conf.Window) looked {
	m := looked{frame, make([]int, frame), make([]int, frame)}
	for i := range frame {
		m.part[i], m.kind[i] = -1, 0
	}
	for _, w := range l {
		for i := range w.Len {
			m.part[w.At+i], m.kind[w.At+i] = w.Part, 2
			if i < margin {
				m.kind[w.At+i] = 1
			}
		}
	}
	return m
}

func big64(n int) *big.Int { return big.NewInt(int64(n)) }

// place: of the tick that is so many behind another one, worked out without a bound.
func (m looked) place(tick, behind int) int {
	at := new(big.Int).Add(big64(tick), big64(behind))
	return int(at.Mod(at, big64(m.frame)).Int64())
}

func (m looked) isOpen(p, place int) bool { return m.kind[place] == 2 && m.part[place] == p }

func (m looked) offered(p int) int {
	n := 0
	for place := range m.frame {
		if m.isOpen(p, place) {
			n++
		}
	}
	return n
}

// count: whole frames, of which each has what is offered, and the other ticks one by one.
func (m looked) count(p, from, n int) int {
	if n < 0 {
		n = 0
	}
	if n > 1<<62 {
		n = 1 << 62
	}
	open := n / m.frame * m.offered(p)
	for i := range n % m.frame {
		if m.isOpen(p, m.place(from, i)) {
			open++
		}
	}
	return open
}

func (m looked) next(p, tick int) (int, bool) {
	if tick > 1<<62 {
		tick = 1 << 62
	}
	for i := range m.frame {
		if m.isOpen(p, m.place(tick, i)) {
			return tick + i, true
		}
	}
	return 0, false
}

// shape: what a table is made of.
type shape struct {
	frame, margin int
	list          []conf.Window
}

func (s shape) String() string {
	return fmt.Sprintf("frame %d, margin %d, %v", s.frame, s.margin, s.list)
}

// full: 32 windows of 8 ticks, which take the greatest frame whole.
func full() shape {
	s := shape{256, 3, nil}
	for i := range 32 {
		s.list = append(s.list, conf.Window{At: 8 * i, Len: 8, Part: i % 6})
	}
	return s
}

// drawn: a shape by a rule that begins with seed; some have no gaps, some windows no open ticks.
func drawn(seed uint64) shape {
	r := rand.New(rand.NewPCG(seed, 4))
	s := shape{1 + r.IntN([]int{3, 12, 40, 256}[r.IntN(4)]), r.IntN([]int{1, 3, 9}[r.IntN(3)]), nil}
	gap := r.IntN(2) * r.IntN(5)
	for end := 0; len(s.list) < 32; {
		w := conf.Window{At: end + r.IntN(gap+1), Len: 1 + r.IntN(12), Part: r.IntN(6)}
		if w.At+w.Len > s.frame {
			break
		}
		s.list = append(s.list, w)
		end = w.At + w.Len
	}
	return s
}

// shapes: chosen ones, and many drawn ones.
func shapes() []shape {
	l := []shape{
		{1, 0, nil},
		{1, 0, []conf.Window{{At: 0, Len: 1, Part: 5}}},
		{1, 1, []conf.Window{{At: 0, Len: 1, Part: 0}}},
		{10, 1, []conf.Window{{At: 2, Len: 4, Part: 0}}},
		{10, 0, []conf.Window{{At: 0, Len: 10, Part: 3}}},
		{10, 8, []conf.Window{{At: 0, Len: 10, Part: 3}}},
		{10, 8, []conf.Window{{At: 0, Len: 2, Part: 1}, {At: 2, Len: 8, Part: 1}}},
		{10, 2, []conf.Window{{At: 0, Len: 3, Part: 1}, {At: 3, Len: 2, Part: 1}, {At: 6, Len: 4, Part: 1}}},
		{10, 0, []conf.Window{{At: 9, Len: 1, Part: 2}}},
		{256, 8, nil},
		{256, 8, []conf.Window{{At: 0, Len: 256, Part: 0}}},
		full(),
	}
	for seed := range uint64(300) {
		l = append(l, drawn(seed))
	}
	return l
}

// made: the table of a shape that may be.
func made(t *testing.T, s shape) *Table {
	t.Helper()
	table := New(s.frame, s.margin, s.list...)
	if table == nil {
		t.Fatalf("no table of %v", s)
	}
	return table
}

// holds asks a table about many ticks, and holds it against what was looked at.
func holds(t *testing.T, s shape, table *Table, ticks []int) {
	t.Helper()
	m := look(s.frame, s.margin, s.list)
	if n := table.Frame(); n != s.frame {
		t.Errorf("%v: a frame of %d", s, n)
	}
	for _, tick := range ticks {
		place := m.place(tick, 0)
		if p, kind := table.Owner(tick); p != m.part[place] || kind != m.kind[place] {
			t.Errorf("%v: the owner of %d is %d, %d; not %d, %d", s, tick, p, kind, m.part[place], m.kind[place])
		}
	}
	for _, p := range partitions {
		if n := table.Offered(p); n != m.offered(p) {
			t.Errorf("%v: %d is offered %d, not %d", s, p, n, m.offered(p))
		}
		for i, tick := range ticks {
			want, found := m.next(p, tick)
			if n, ok := table.Next(p, tick); n != want || ok != found {
				t.Errorf("%v: the next one of %d from %d on is %d, %v; not %d, %v", s, p, tick, n, ok, want, found)
			}
			// Each number of ticks comes at some of the ticks.
			for j := i; j < len(edges); j += 7 {
				if n := table.Count(p, tick, edges[j]); n != m.count(p, tick, edges[j]) {
					t.Errorf("%v: of %d ticks from %d on %d are open to %d, not %d", s, edges[j], tick, n, p, m.count(p, tick, edges[j]))
				}
			}
		}
	}
}

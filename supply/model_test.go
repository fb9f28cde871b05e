package supply

import (
	"fmt"
	"math"
	"math/rand/v2"
	"testing"

	"parclose/conf"
	"parclose/frame"
)

// edges: numbers about which an answer may turn, or an int wrap round.
var edges = []int{
	math.MinInt, math.MinInt + 1, -1<<62 - 1, -1 << 62, -1<<50 - 1, -1 << 50, -1 << 40, -1 << 32, -257, -256, -255, -11, -10, -9, -2, -1,
	0, 1, 2, 3, 5, 6, 7, 8, 9, 10, 11, 12, 19, 20, 21, 100, 255, 256, 257, 511, 512, 513, 1000, 1 << 16, 1 << 31, 1 << 32, 1<<32 + 1,
	1<<40 - 1, 1 << 40, 1<<40 + 1, 1<<48 - 1, 1 << 48, 1<<48 + 1, 1<<49 + 3, 1<<50 - 1, 1 << 50, 1<<50 + 1, 1<<50 + 7, 1<<51 + 3, 1<<56 + 1,
	1<<62 - 1, 1 << 62, 1<<62 + 1, math.MaxInt - 255, math.MaxInt - 1, math.MaxInt,
}

// shape: what a table is made of.
type shape struct {
	frame, margin int
	list          []conf.Window
}

func (s shape) String() string {
	return fmt.Sprintf("frame %d, margin %d, %v", s.frame, s.margin, s.list)
}

// example: the chapter's.
func example() shape { return shape{10, 0, []conf.Window{{At: 3, Len: 3, Part: 0}}} }

// full: as many windows as there may be, in the greatest frame, without a gap.
func full() shape {
	var l []conf.Window
	for at := 0; at < 256; at += 8 {
		l = append(l, conf.Window{At: at, Len: 8, Part: at % 7 % 6})
	}
	return shape{256, 3, l}
}

// drawn: a shape by a rule that begins with seed: windows and gaps fill its frame; some windows are all margin.
func drawn(seed uint64) shape {
	r := rand.New(rand.NewPCG(seed, 8))
	ticks, parts, gaps := 1+r.IntN(4<<r.IntN(5)), 1+r.IntN(6), r.IntN(4)
	s := shape{frame: ticks, margin: r.IntN(9) * r.IntN(2)}
	for at := 0; at < ticks && len(s.list) < 32; {
		length := min(1+r.IntN(9), ticks-at)
		if p := r.IntN(parts + gaps); p < parts {
			s.list = append(s.list, conf.Window{At: at, Len: length, Part: p})
		}
		at += length
	}
	return s
}

// shapes: chosen ones, and many drawn ones.
func shapes() []shape {
	l := []shape{
		example(),
		{1, 0, nil},
		{1, 0, []conf.Window{{At: 0, Len: 1, Part: 5}}},
		{1, 1, []conf.Window{{At: 0, Len: 1, Part: 0}}},
		{2, 0, []conf.Window{{At: 1, Len: 1, Part: 0}}},
		{10, 1, []conf.Window{{At: 2, Len: 4, Part: 0}}},
		{10, 0, []conf.Window{{At: 0, Len: 10, Part: 3}}},
		{10, 8, []conf.Window{{At: 0, Len: 10, Part: 3}}},
		{10, 8, []conf.Window{{At: 0, Len: 2, Part: 1}, {At: 2, Len: 8, Part: 1}}},
		{10, 0, []conf.Window{{At: 0, Len: 1, Part: 2}, {At: 9, Len: 1, Part: 2}}},
		{12, 0, []conf.Window{{At: 0, Len: 1, Part: 0}, {At: 4, Len: 2, Part: 0}, {At: 8, Len: 1, Part: 0}}},
		{20, 0, []conf.Window{{At: 0, Len: 10, Part: 0}, {At: 11, Len: 1, Part: 0}, {At: 13, Len: 1, Part: 0}, {At: 15, Len: 1, Part: 0}}},
		{256, 8, nil},
		{256, 0, []conf.Window{{At: 0, Len: 256, Part: 0}}},
		{256, 8, []conf.Window{{At: 0, Len: 256, Part: 0}}},
		{256, 0, []conf.Window{{At: 255, Len: 1, Part: 0}}},
		{255, 0, []conf.Window{{At: 100, Len: 1, Part: 0}, {At: 200, Len: 40, Part: 4}}},
		full(),
	}
	for seed := range uint64(150) {
		l = append(l, drawn(seed))
	}
	return l
}

// tableOf: the table of a shape that may be.
func tableOf(t *testing.T, s shape) *frame.Table {
	t.Helper()
	table := frame.New(s.frame, s.margin, s.list...)
	if table == nil {
		t.Fatalf("no table of %v", s)
	}
	return table
}

// made: the supply of a partition.
func made(t *testing.T, s shape, p int) *Supply {
	t.Helper()
	a := Of(tableOf(t, s), p)
	if a == nil {
		t.Fatalf("no supply of %d in %v", p, s)
	}
	return a
}

// each: every partition of every shape.
func each(t *testing.T, do func(s shape, p int)) {
	t.Helper()
	for _, s := range shapes() {
		for p := range 6 {
			do(s, p)
		}
	}
}

// looked: is each place of a frame open to a partition? Worked out of the windows, without a table.
type looked []bool

func look(s shape, p int) looked {
	m := make(looked, s.frame)
	for _, w := range s.list {
		for i := range w.Len {
			m[w.At+i] = w.Part == p && i >= s.margin
		}
	}
	return m
}

// open: is a tick, from 0 on?
func (m looked) open(tick int) bool { return m[tick%len(m)] }

func (m looked) offered() int {
	n := 0
	for _, open := range m {
		if open {
			n++
		}
	}
	return n
}

// most: so many ticks are counted one by one.
func (m looked) most() int { return 3*len(m) + 2 }

// counted: for each number of ticks the least number of open ones, and the first beginning that has just so many: all n ticks one behind the other are counted, from each tick of more than a frame on.
func (m looked) counted() (least, worst []int) {
	least, worst = make([]int, m.most()+1), make([]int, m.most()+1)
	for from := range len(m) + 3 {
		n := 0
		for i := range least {
			if from == 0 || n < least[i] {
				least[i], worst[i] = n, from
			}
			if m.open(from + i) {
				n++
			}
		}
	}
	return least, worst
}

// within: how many of n ticks from from on are open, for huge n: for each open place how often it comes.
func (m looked) within(from, n int) int {
	sum, round := 0, len(m)
	for place, open := range m {
		if open {
			sum += (from+n-1-place+round)/round - (from-1-place+round)/round
		}
	}
	return sum
}

// few: the least of these, and the first beginning that has it. n is cut as the chapter says.
func (m looked) few(n int) (int, int) {
	n = max(0, min(n, 1<<50))
	least, worst := m.within(0, n), 0
	for from := 1; from < len(m); from++ {
		if some := m.within(from, n); some < least {
			least, worst = some, from
		}
	}
	return least, worst
}

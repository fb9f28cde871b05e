package gsched_test

import (
	"math/rand/v2"

	"parclose/conf"
)

// example: a frame of all kinds of ticks: gaps 0 to 2, 12, 13 and 16; margins 3, 4, 8, 9, 14, 15, 17 and 18; open to 0: 5 to 7 and 19; to 1: 10 and 11; to 2 and 3 none.
func example() conf.Config {
	return conf.Config{
		Frame:  20,
		Margin: 2,
		Windows: []conf.Window{
			{At: 3, Len: 5, Part: 0}, {At: 8, Len: 4, Part: 1}, {At: 14, Len: 2, Part: 2}, {At: 17, Len: 3, Part: 0},
		},
		Parts: []conf.Part{{Donees: []int{3, 1, 2}}, {}, {Donees: []int{0}}, {Donees: []int{1, 0}}},
	}
}

// full: as much of everything as there may be.
func full() conf.Config {
	c := conf.Config{Frame: 256, Margin: 2, Parts: make([]conf.Part, 6)}
	for i := range 32 {
		c.Windows = append(c.Windows, conf.Window{At: 8 * i, Len: 8, Part: i % 6})
	}
	for p := range c.Parts {
		for range 6 {
			c.Parts[p].Tasks = append(c.Parts[p].Tasks, conf.Task{T: 1000, D: 900, V: 900, Lo: 1, Top: 1})
		}
		for range 3 {
			c.Parts[p].Servers = append(c.Parts[p].Servers, conf.Server{Refill: true, C: 2, T: 1000})
		}
		for i := range 5 {
			c.Parts[p].Donees = append(c.Parts[p].Donees, (p+5-i)%6)
		}
		c.Parts[p].Acts = [3]uint8{2, 1, 0}
	}
	for i := range 8 {
		c.Chans = append(c.Chans, conf.Channel{Queue: i%2 == 0, From: i % 6, To: (i + 1) % 6, Size: 16})
	}
	return c
}

// systems: chosen ones that may be, and drawn ones.
func systems() []conf.Config {
	l := []conf.Config{
		example(),
		full(),
		{Frame: 1, Parts: make([]conf.Part, 1)},
		{Frame: 1, Parts: make([]conf.Part, 6)},
		{Frame: 256, Margin: 8, Parts: make([]conf.Part, 1)},
		{Frame: 1, Windows: []conf.Window{{At: 0, Len: 1}}, Parts: make([]conf.Part, 1)},
		{Frame: 1, Margin: 1, Windows: []conf.Window{{At: 0, Len: 1}}, Parts: make([]conf.Part, 1)},
		{Frame: 2, Margin: 1, Windows: []conf.Window{{At: 0, Len: 2}}, Parts: make([]conf.Part, 1)},
		{Frame: 8, Margin: 8, Windows: []conf.Window{{At: 0, Len: 8}}, Parts: make([]conf.Part, 1)},
		{Frame: 9, Margin: 8, Windows: []conf.Window{{At: 0, Len: 9, Part: 1}}, Parts: []conf.Part{{}, {Donees: []int{0}}}},
		{Frame: 10, Windows: []conf.Window{{At: 9, Len: 1, Part: 5}}, Parts: []conf.Part{{}, {}, {}, {}, {}, {Donees: []int{0, 4, 1, 3, 2}}}},
		{Frame: 256, Windows: []conf.Window{{At: 0, Len: 256, Part: 1}}, Parts: []conf.Part{{Donees: []int{1}}, {Donees: []int{0}}}},
		{Frame: 256, Margin: 8, Windows: []conf.Window{{At: 0, Len: 9, Part: 2}, {At: 247, Len: 9, Part: 0}}, Parts: []conf.Part{{Donees: []int{2, 1}}, {}, {}}},
	}
	for seed := range uint64(60) {
		l = append(l, drawn(rand.New(rand.NewPCG(seed, 24))))
	}
	return l
}

// drawn: a system that may be; some have no gaps, some windows no open ticks.
func drawn(r *rand.Rand) conf.Config {
	c := conf.Config{
		Frame:  1 + r.IntN([]int{4, 20, 60, 256}[r.IntN(4)]),
		Margin: r.IntN([]int{1, 3, 9}[r.IntN(3)]),
		Parts:  make([]conf.Part, 1+r.IntN(6)),
	}
	c.Windows = drawnWindows(r, c.Frame, len(c.Parts))
	for p := range c.Parts {
		c.Parts[p] = drawnPart(r, p, len(c.Parts))
	}
	for range r.IntN(3) * (len(c.Parts) - 1) {
		from := r.IntN(len(c.Parts))
		to := (from + 1 + r.IntN(len(c.Parts)-1)) % len(c.Parts)
		if len(c.Chans) < 8 {
			c.Chans = append(c.Chans, conf.Channel{Queue: r.IntN(2) == 0, From: from, To: to, Size: 1 + r.IntN(16)})
		}
	}
	return c
}

func drawnWindows(r *rand.Rand, frame, parts int) []conf.Window {
	var l []conf.Window
	gap, most := r.IntN(2)*r.IntN(5), 1+r.IntN(16)
	for end := 0; len(l) < 32; {
		w := conf.Window{At: end + r.IntN(gap+1), Len: 1 + r.IntN(most), Part: r.IntN(parts)}
		if w.At+w.Len > frame {
			break
		}
		l = append(l, w)
		end = w.At + w.Len
	}
	return l
}

// drawnPart: with some of the others, in any order, as its donees.
func drawnPart(r *rand.Rand, p, parts int) conf.Part {
	a := conf.Part{Acts: [3]uint8{uint8(r.IntN(3)), uint8(r.IntN(3)), uint8(r.IntN(3))}}
	for range r.IntN(3) {
		d := 1 + r.IntN(900)
		a.Tasks = append(a.Tasks, conf.Task{Hi: true, T: d + r.IntN(100), D: d, V: d, Lo: 1, Top: d})
	}
	for range r.IntN(2) {
		a.Servers = append(a.Servers, conf.Server{Refill: r.IntN(2) == 0, C: 1, T: 1 + r.IntN(1000)})
	}
	count := r.IntN(parts)
	for _, donee := range r.Perm(parts) {
		if donee != p && len(a.Donees) < count {
			a.Donees = append(a.Donees, donee)
		}
	}
	return a
}

// drawnRow: who is ready; fewer, or more, than there may be partitions at times.
func drawnRow(r *rand.Rand) []bool {
	row, of := make([]bool, r.IntN(9)), 1+r.IntN(4)
	for i := range row {
		row[i] = r.IntN(of) == 0
	}
	return row
}

// drawnTick: one of the first frames most often.
func drawnTick(r *rand.Rand) int {
	switch r.IntN(4) {
	case 0:
		return ticks[r.IntN(len(ticks))]
	case 1:
		return int(r.Uint64())
	}
	return r.IntN(1500) - 500
}

package kernel_test

import (
	"math/rand/v2"

	"parclose/admit"
	"parclose/api"
	"parclose/conf"
)

// Short names for what a system is made of.
func high(period, deadline, given, lo, top int) conf.Task {
	return conf.Task{Hi: true, T: period, D: deadline, V: given, Lo: lo, Top: top}
}
func low(period, deadline, lo int) conf.Task {
	return conf.Task{T: period, D: deadline, V: deadline, Lo: lo, Top: lo}
}
func plainly(c, period int) conf.Server  { return conf.Server{C: c, T: period} }
func refilled(c, period int) conf.Server { return conf.Server{Refill: true, C: c, T: period} }

// alone: one partition, with all ticks.
func alone(a conf.Part) conf.Config {
	return conf.Config{Frame: 1, Windows: []conf.Window{{Len: 1}}, Parts: []conf.Part{a}}
}

// pair: two partitions with five ticks of ten each; the first one has tasks of both kinds, and servers of both, which gives to the second one.
func pair() conf.Config {
	return conf.Config{
		Frame:   10,
		Windows: []conf.Window{{At: 0, Len: 5, Part: 0}, {At: 5, Len: 5, Part: 1}},
		Parts: []conf.Part{
			{Tasks: []conf.Task{high(40, 40, 20, 2, 5), low(40, 40, 2)}, Servers: []conf.Server{plainly(2, 40), refilled(1, 40)}, Donees: []int{1}},
			{Tasks: []conf.Task{high(40, 30, 12, 3, 6), low(40, 40, 2)}, Servers: []conf.Server{plainly(1, 40)}},
		},
		Chans: []conf.Channel{{Queue: true, From: 0, To: 1, Size: 2}, {From: 0, To: 1, Size: 3}, {Queue: true, From: 1, To: 0, Size: 1}, {From: 1, To: 0, Size: 1}},
	}
}

// chain: three partitions, each of which gives to the next ones, with margins and gaps.
func chain() conf.Config {
	return conf.Config{
		Frame: 20, Margin: 1,
		Windows: []conf.Window{{At: 1, Len: 5, Part: 0}, {At: 6, Len: 5, Part: 1}, {At: 13, Len: 6, Part: 2}},
		Parts: []conf.Part{
			{Tasks: []conf.Task{low(60, 60, 2), high(60, 60, 20, 1, 3)}, Donees: []int{2, 1}, Acts: [3]uint8{stop, again, note}},
			{Tasks: []conf.Task{low(60, 60, 2)}, Servers: []conf.Server{refilled(1, 60)}, Donees: []int{2}, Acts: [3]uint8{again, stop, stop}},
			{Tasks: []conf.Task{high(60, 60, 40, 2, 4)}, Servers: []conf.Server{plainly(1, 60)}, Acts: [3]uint8{note, note, again}},
		},
		Chans: []conf.Channel{{From: 0, To: 1, Size: 5}, {Queue: true, From: 1, To: 2, Size: 3}},
	}
}

// whole: as much of everything as there may be.
func whole() conf.Config {
	c := conf.Config{Frame: 64, Parts: make([]conf.Part, maxParts)}
	for i := range 32 {
		c.Windows = append(c.Windows, conf.Window{At: 2 * i, Len: 2, Part: i % maxParts})
	}
	for p := range c.Parts {
		a := &c.Parts[p]
		for task := range maxTasks {
			if task%2 == 0 {
				a.Tasks = append(a.Tasks, high(640, 600, 500, 1+task%3, 2+task%3))
			} else {
				a.Tasks = append(a.Tasks, low(640, 640, 1+task%3))
			}
		}
		for n := range maxServers {
			a.Servers = append(a.Servers, conf.Server{Refill: n%2 == p%2, C: 1 + n, T: 640})
		}
		for i := range maxParts - 1 {
			a.Donees = append(a.Donees, (p+maxParts-1-i)%maxParts)
		}
		a.Acts = [3]uint8{uint8(p % 3), uint8((p + 1) % 3), uint8((p + 2) % 3)}
	}
	for i := range 8 {
		c.Chans = append(c.Chans, conf.Channel{Queue: i%2 == 0, From: i % maxParts, To: (i + 1) % maxParts, Size: 1 + i})
	}
	return c
}

// systems: chosen ones that boot.
func systems() []conf.Config {
	return []conf.Config{
		pair(), chain(), whole(),
		alone(conf.Part{}),
		alone(conf.Part{Tasks: []conf.Task{low(1, 1, 1)}}),
		alone(conf.Part{Servers: []conf.Server{plainly(1, 2)}}),
		alone(conf.Part{Tasks: []conf.Task{high(10, 10, 5, 2, 6)}, Servers: []conf.Server{refilled(1, 10)}, Acts: [3]uint8{again, again, again}}),
		{Frame: 1, Parts: make([]conf.Part, 1)},
		{Frame: 256, Margin: 8, Parts: make([]conf.Part, 6)},
		{Frame: 3, Margin: 3, Windows: []conf.Window{{Len: 3}}, Parts: []conf.Part{{Donees: []int{1}}, {}}},
		{Frame: 2, Windows: []conf.Window{{At: 1, Len: 1, Part: 1}}, Parts: []conf.Part{{}, {Donees: []int{0}}}},
	}
}

// boots: may a system?
func boots(c conf.Config) bool {
	v, err := admit.Judge(c)
	return err == api.OK && v.Kind == admit.Admit
}

// drawnWindows: such that most partitions have some.
func drawnWindows(r *rand.Rand, frame, parts int) []conf.Window {
	var l []conf.Window
	gap, most, part := r.IntN(2)*r.IntN(2)*r.IntN(3), 1+r.IntN(max(frame/parts, 1)), r.IntN(parts)
	for end := 0; len(l) < 32; part = (part + 1 + r.IntN(2)*r.IntN(2)) % parts {
		w := conf.Window{At: end + r.IntN(gap+1), Len: 1 + r.IntN(most), Part: part}
		if w.At+w.Len > frame {
			break
		}
		l = append(l, w)
		end = w.At + w.Len
	}
	return l
}

// drawnDonees: some of the others, in any order.
func drawnDonees(r *rand.Rand, p, parts int) []int {
	var l []int
	count := r.IntN(parts)
	for _, donee := range r.Perm(parts) {
		if donee != p && len(l) < count {
			l = append(l, donee)
		}
	}
	return l
}

func drawnActs(r *rand.Rand) [3]uint8 {
	var acts [3]uint8
	for kind := range acts {
		// Nothing most often, lest no partition has much to do.
		acts[kind] = uint8([]int{note, note, note, note, again, again, stop}[r.IntN(7)])
	}
	return acts
}

func drawnChannels(r *rand.Rand, parts int) []conf.Channel {
	var l []conf.Channel
	for range min(r.IntN(9), 8*(parts-1)) {
		from, to := r.IntN(parts), 1+r.IntN(parts-1)
		l = append(l, conf.Channel{Queue: r.IntN(2) == 0, From: from, To: (from + to) % parts, Size: 1 + r.IntN([]int{3, 16}[r.IntN(2)])})
	}
	return l
}

// drawnTask: of one of a few periods, so that all of them come together again soon.
func drawnTask(r *rand.Rand) conf.Task {
	period := []int{4, 6, 8, 10, 12, 15, 20, 24, 30, 40, 60, 120}[r.IntN(12)]
	deadline := period - r.IntN(1+period/3)
	budget := 1 + r.IntN(1+deadline/8)
	if r.IntN(3) == 0 {
		return low(period, deadline, budget)
	}
	return high(period, deadline, budget+r.IntN((deadline-budget)*2/3+1), budget, budget+r.IntN(min(deadline-budget, 6)+1))
}

func drawnServer(r *rand.Rand) conf.Server {
	period := []int{4, 6, 8, 10, 12, 15, 20, 24, 30, 40, 60, 120}[r.IntN(12)]
	return conf.Server{Refill: r.IntN(2) == 0, C: 1 + r.IntN(1+period/6), T: period}
}

// frameOf: one without tasks and servers.
func frameOf(r *rand.Rand) conf.Config {
	c := conf.Config{
		Frame: []int{1, 2, 4, 5, 6, 8, 10, 12, 15, 20, 24, 30}[r.IntN(12)],
		Parts: make([]conf.Part, 1+r.IntN(1+r.IntN(maxParts))),
	}
	if r.IntN(6) == 0 && c.Frame >= 3*len(c.Parts) {
		c.Margin = 1 + r.IntN(2)
	}
	c.Windows = drawnWindows(r, c.Frame, len(c.Parts))
	for p := range c.Parts {
		c.Parts[p] = conf.Part{Donees: drawnDonees(r, p, len(c.Parts)), Acts: drawnActs(r)}
	}
	c.Chans = drawnChannels(r, len(c.Parts))
	return c
}

// more: one of the partitions has a task, or a server, more.
func more(r *rand.Rand, c conf.Config) conf.Config {
	c = conf.Clone(c)
	a := &c.Parts[r.IntN(len(c.Parts))]
	if r.IntN(4) == 0 && len(a.Servers) < maxServers {
		a.Servers = append(a.Servers, drawnServer(r))
	} else if len(a.Tasks) < maxTasks {
		a.Tasks = append(a.Tasks, drawnTask(r))
	}
	return c
}

// drawn: a system that boots, with as much in it as it takes of what was drawn.
func drawn(r *rand.Rand) conf.Config {
	c := frameOf(r)
	for range 12 * len(c.Parts) {
		if d := more(r, c); boots(d) {
			c = d
		}
	}
	return c
}

// crammed: a system that may be, with more in it than it takes.
func crammed(r *rand.Rand) conf.Config {
	c := frameOf(r)
	for range 4 * len(c.Parts) {
		c = more(r, c)
	}
	return c
}

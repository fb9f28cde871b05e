package demand

import (
	"math"
	"math/rand/v2"

	"parclose/conf"
)

// far: above that many ticks a demand is that of just so many.
const far = 1 << 40

// edges: numbers about which an answer may turn, or an int wrap round.
var edges = []int{
	math.MinInt, math.MinInt + 1, -1 << 62, -1<<40 - 1, -1 << 40, -1 << 32, -65537, -1001, -1000, -11, -10, -6, -2, -1,
	0, 1, 2, 3, 4, 5, 6, 7, 9, 10, 11, 15, 16, 17, 20, 21, 99, 100, 101, 999, 1000, 1001, 1999, 2000, 2001, 65535, 65536, 65537,
	1 << 31, 1 << 32, 1<<32 + 1, far - 1001, far - 1000, far - 999, far - 10, far - 1, far, far + 1, far + 10, far + 1000, far + 1001,
	1 << 41, 1<<52 + 3, 1<<62 - 1, 1 << 62, math.MaxInt - 1000, math.MaxInt - 1, math.MaxInt,
}

// example: the chapter's.
func example() conf.Task { return conf.Task{Hi: true, T: 10, D: 10, V: 6, Lo: 2, Top: 5} }

// low: a task that is not Hi.
func low(period, due, budget int) conf.Task {
	return conf.Task{T: period, D: due, V: due, Lo: budget, Top: budget}
}

// high: one that is.
func high(period, due, early, budget, top int) conf.Task {
	return conf.Task{Hi: true, T: period, D: due, V: early, Lo: budget, Top: top}
}

// rightTask: may there be such a task? As chapter 3 says it, number by number.
func rightTask(k conf.Task) bool {
	ok := k.T >= 1 && k.T <= 1000 && k.Lo >= 1 && k.Lo <= k.V && k.V <= k.D && k.D <= k.T && k.Lo <= k.Top && k.Top <= k.D
	if !k.Hi {
		ok = ok && k.V == k.D && k.Top == k.Lo
	}
	return ok
}

func rightServer(s conf.Server) bool { return s.C >= 1 && s.C <= s.T && s.T >= 1 && s.T <= 1000 }

// drawnTask: a right one, by a rule that begins with seed.
func drawnTask(seed uint64) conf.Task {
	r := rand.New(rand.NewPCG(seed, 9))
	k := conf.Task{Hi: r.IntN(3) > 0, T: 1 + r.IntN([]int{4, 12, 50, 1000}[r.IntN(4)])}
	k.D = k.T - r.IntN(2)*r.IntN(k.T)
	k.V = k.D
	if k.Hi {
		k.V -= r.IntN(2) * r.IntN(k.D)
	}
	k.Lo = 1 + r.IntN(k.V)
	k.Top = k.Lo
	if k.Hi {
		k.Top += r.IntN(2) * r.IntN(k.D-k.Lo+1)
	}
	return k
}

// tasks: right ones, chosen ones and drawn ones.
func tasks() []conf.Task {
	l := []conf.Task{
		example(),
		low(1, 1, 1), low(2, 1, 1), low(5, 5, 2), low(10, 4, 4), low(10, 10, 10), low(1000, 1000, 1000), low(1000, 1, 1), low(999, 500, 3),
		high(1, 1, 1, 1, 1), high(2, 2, 1, 1, 1), high(2, 2, 1, 1, 2), high(2, 2, 2, 1, 2), high(2, 2, 2, 2, 2),
		high(10, 10, 10, 3, 3), high(10, 10, 10, 3, 8), high(10, 10, 10, 10, 10), high(10, 10, 1, 1, 10), high(10, 10, 6, 6, 6),
		high(10, 10, 6, 6, 9), high(10, 8, 8, 2, 2), high(10, 8, 8, 8, 8), high(10, 8, 3, 3, 3), high(10, 8, 3, 3, 7), high(20, 15, 8, 3, 6),
		high(1000, 1000, 1000, 1000, 1000), high(1000, 1000, 1, 1, 1000), high(1000, 1000, 500, 500, 1000), high(1000, 700, 300, 300, 300),
	}
	for seed := range uint64(120) {
		l = append(l, drawnTask(seed))
	}
	return l
}

// wrongTasks: each of one fault, or of several.
func wrongTasks() []conf.Task {
	l := []conf.Task{
		{}, {Hi: true}, {T: 1}, {T: 10, D: 10}, {Hi: true, T: 10, D: 10, V: 10, Top: 5},
		low(1001, 10, 5), low(0, 10, 5), low(-10, 10, 5), low(math.MinInt, 10, 5), low(math.MaxInt, 10, 5), low(1<<50, 1<<45, 1<<44),
		low(9, 10, 5), low(10, 0, 0), low(10, 10, 0), low(10, 10, -3), low(10, 5, 6), low(10, -5, -6), low(-1, -2, -3),
		high(10, 10, 1, 2, 5), high(10, 10, 11, 2, 5), high(10, 10, 6, 2, 1), high(10, 10, 6, 2, 11), high(10, 8, 6, 2, 9), high(10, 11, 6, 2, 5),
		high(10, 10, 6, 0, 5), high(10, 10, 0, 0, 5), high(10, 10, -6, -7, 5), high(0, 0, 0, 0, 0), high(1001, 10, 6, 2, 5),
		high(10, 10, 6, math.MinInt, 5), high(10, math.MaxInt, 6, 2, 5), high(10, math.MinInt, 6, 2, 5), high(10, 10, math.MinInt, 2, 5),
		high(10, 10, 6, 2, math.MaxInt), high(math.MaxInt, math.MaxInt, math.MaxInt, 1, math.MaxInt), high(math.MinInt, math.MinInt, 0, 0, 0),
	}
	early, more := example(), example()
	early.Hi, early.Top = false, early.Lo
	more.Hi, more.V = false, more.D
	return append(l, early, more)
}

// servers: right ones, of both kinds.
func servers() []conf.Server {
	r := rand.New(rand.NewPCG(1, 9))
	l := []conf.Server{{C: 1, T: 1}, {C: 1, T: 2}, {C: 2, T: 2}, {C: 2, T: 10}, {C: 10, T: 10}, {C: 3, T: 7}, {C: 1, T: 1000}, {C: 1000, T: 1000}, {C: 7, T: 999}}
	for range 30 {
		period := 1 + r.IntN([]int{8, 40, 1000}[r.IntN(3)])
		l = append(l, conf.Server{C: 1 + r.IntN(period), T: period})
	}
	for _, s := range l {
		s.Refill = true
		l = append(l, s)
	}
	return l
}

func wrongServers() []conf.Server {
	l := []conf.Server{
		{}, {C: 1}, {T: 10}, {C: -1, T: 10}, {C: 11, T: 10}, {C: 1, T: 1001}, {C: 1, T: -10}, {C: -10, T: -5}, {C: 0, T: 1},
		{C: math.MinInt, T: 10}, {C: math.MaxInt, T: 10}, {C: 1, T: math.MaxInt}, {C: 1, T: math.MinInt}, {C: math.MaxInt, T: math.MaxInt}, {C: 2, T: 1},
	}
	for _, s := range l {
		s.Refill = true
		l = append(l, s)
	}
	return l
}

// pick: some elements of a list, as a rule goes.
func pick[E any](r *rand.Rand, n int, l []E) []E {
	var some []E
	for range n {
		some = append(some, l[r.IntN(len(l))])
	}
	return some
}

// parts: partitions with tasks, servers, both, none, right ones among others, and more than there may be.
func parts() []conf.Part {
	l := []conf.Part{
		{}, {Tasks: []conf.Task{}, Servers: []conf.Server{}, Donees: []int{}},
		{Tasks: []conf.Task{example()}},
		{Tasks: []conf.Task{low(5, 5, 2)}, Donees: []int{1, 1 << 40}, Acts: [3]uint8{1, 255, 2}},
		{Servers: []conf.Server{{C: 2, T: 10}}}, {Servers: []conf.Server{{Refill: true, C: 2, T: 10}}},
		{Servers: []conf.Server{{Refill: true, C: 1, T: 1}}}, {Servers: []conf.Server{{C: 1, T: 1}, {Refill: true, C: 3, T: 3}}},
		{Tasks: []conf.Task{example(), low(7, 3, 1)}, Servers: []conf.Server{{C: 2, T: 10}, {Refill: true, C: 1, T: 4}}},
		{Tasks: wrongTasks(), Servers: wrongServers()},
		{Tasks: append(wrongTasks(), tasks()...), Servers: append(wrongServers(), servers()...)},
	}
	for _, k := range tasks() {
		l = append(l, conf.Part{Tasks: []conf.Task{k}})
	}
	for _, s := range servers() {
		l = append(l, conf.Part{Servers: []conf.Server{s}})
	}
	r := rand.New(rand.NewPCG(2, 9))
	for range 60 {
		a := conf.Part{Tasks: pick(r, r.IntN(7), tasks()), Servers: pick(r, r.IntN(4), servers())}
		if r.IntN(3) == 0 {
			a.Tasks = append(a.Tasks, pick(r, 1+r.IntN(3), wrongTasks())...)
			a.Servers = append(a.Servers, pick(r, 1+r.IntN(3), wrongServers())...)
			r.Shuffle(len(a.Tasks), func(i, j int) { a.Tasks[i], a.Tasks[j] = a.Tasks[j], a.Tasks[i] })
		}
		l = append(l, a)
	}
	return l
}

// near: times about which a demand of these numbers may turn.
func near(numbers ...int) []int {
	l := append([]int(nil), edges...)
	for _, n := range numbers {
		for _, m := range []int{0, 1, 2, 3, 17, 1000} {
			for d := -2; d <= 2; d++ {
				l = append(l, n+m*numbers[0]+d)
			}
		}
	}
	return l
}

func timesOf(k conf.Task) []int {
	if k.T < 1 || k.T > 1000 {
		return edges
	}
	return near(k.T, k.D, k.V, k.D-k.V, k.D-k.V+k.Lo)
}

// short: as few ticks as will do to count one by one, and how many periods they were more; n is cut first.
func short(n, period int) (int, int) {
	n = min(max(n, 0), far)
	if n < 4*period {
		return n, 0
	}
	times := n/period - 2
	return n - times*period, times
}

// asked: what jobs of a task ask for, counted one by one.
func asked(k conf.Task, n int, high bool) int {
	if !rightTask(k) || high && !k.Hi {
		return 0
	}
	n, times := short(n, k.T)
	if !high {
		sum := times * k.Lo
		for arrives := 0; arrives+k.V <= n; arrives += k.T {
			sum += k.Lo
		}
		return sum
	}
	// The last job is due with the last tick; those ahead of it are due a period earlier each, as long as one may still be there when the mode rises.
	sum, first := times*k.Top, -1
	for due := n; due-k.D >= -k.V; due -= k.T {
		sum, first = sum+k.Top, due
	}
	if arrived := first - k.D; first >= 0 && arrived < 0 {
		// In low mode it goes as if it were due V behind its arrival: what does not go into the ticks up to there was done.
		sum -= max(0, k.Lo-(arrived+k.V))
	}
	return sum
}

// served: what is asked of a server, counted period by period.
func served(s conf.Server, n int) int {
	if !rightServer(s) {
		return 0
	}
	n, times := short(n, s.T)
	sum := times * s.C
	if !s.Refill {
		for at := 0; at+s.T <= n; at += s.T {
			sum += s.C
		}
		return sum
	}
	for at := 0; at < n && n >= s.T; at += s.T {
		sum += s.C
	}
	return sum
}

// all: what a whole partition asks for.
func all(a conf.Part, n int, high bool) int {
	sum := 0
	for _, k := range a.Tasks {
		sum += asked(k, n, high)
	}
	for _, s := range a.Servers {
		if !high {
			sum += served(s, n)
		}
	}
	return sum
}

// of: Low, or High.
func of(a conf.Part, n int, high bool) int {
	if high {
		return High(a, n)
	}
	return Low(a, n)
}

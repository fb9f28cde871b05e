package bound

import (
	"math"
	"math/rand/v2"

	"parclose/conf"
)

// most: the greatest bound that there is, as DOC.md names it.
const most = 65536

// edges: numbers about which an answer may turn, or an int wrap round.
var edges = []int{
	math.MinInt, math.MinInt + 1, -1<<62 - 1, -1 << 62, -1 << 32, -65537, -65536, -65535, -1000, -256, -20, -10, -2, -1,
	0, 1, 2, 3, 4, 5, 6, 7, 8, 10, 12, 16, 20, 25, 30, 60, 64, 97, 100, 128, 255, 256, 257, 360, 512, 997, 999, 1000, 1001, 1024, 2520, 5040,
	21845, 21846, 32767, 32768, 32769, 65000, 65519, 65520, 65521, 65534, 65535, 65536, 65537, 65538, 131071, 131072,
	1<<31 - 1, 1 << 31, 1<<31 + 1, 1<<32 - 1, 1 << 32, 1<<32 + 1, 1<<32 + 60, 1<<48 + 16, 1<<62 - 1, 1 << 62, 1<<62 + 1, math.MaxInt - 1, math.MaxInt,
}

// task: one of this period, due so many ticks behind its arrival.
func task(period, due int) conf.Task {
	return conf.Task{T: period, D: due, V: due, Lo: 1, Top: 1}
}

// highTask: a Hi one, of a V of its own.
func highTask(period, due, early int) conf.Task {
	return conf.Task{Hi: true, T: period, D: due, V: early, Lo: 1, Top: due}
}

func server(period int) conf.Server { return conf.Server{C: 1, T: period} }

func refilled(period int) conf.Server { return conf.Server{Refill: true, C: period, T: period} }

// of: a partition of tasks that are due when their period ends.
func of(periods ...int) conf.Part {
	var a conf.Part
	for _, n := range periods {
		a.Tasks = append(a.Tasks, task(n, n))
	}
	return a
}

// with: and servers of these periods.
func with(a conf.Part, periods ...int) conf.Part {
	for i, n := range periods {
		s := server(n)
		if i%2 == 1 {
			s = refilled(n)
		}
		a.Servers = append(a.Servers, s)
	}
	return a
}

// example: the chapter's.
func example() conf.Part { return conf.Part{Tasks: []conf.Task{task(30, 25)}} }

// rightTask: may there be such a task? As chapter 3 says it, number by number.
func rightTask(k conf.Task) bool {
	ok := k.T >= 1 && k.T <= 1000 && k.Lo >= 1 && k.Lo <= k.V && k.V <= k.D && k.D <= k.T && k.Lo <= k.Top && k.Top <= k.D
	if !k.Hi {
		ok = ok && k.V == k.D && k.Top == k.Lo
	}
	return ok
}

func rightServer(s conf.Server) bool { return s.C >= 1 && s.C <= s.T && s.T >= 1 && s.T <= 1000 }

// wrongTasks: each of one fault, or of several; of periods that have little in common with others, and due late.
func wrongTasks() []conf.Task {
	l := []conf.Task{
		{}, {Hi: true}, {T: 991}, {T: 991, D: 983}, {T: 991, D: 983, V: 983}, {T: 991, D: 983, V: 983, Lo: 1}, {T: 991, D: 983, V: 983, Lo: 1, Top: 2},
		{T: 991, D: 983, V: 982, Lo: 1, Top: 1}, {Hi: true, T: 991, D: 983, V: 984, Lo: 1, Top: 1}, {Hi: true, T: 991, D: 983, V: 900, Lo: 2, Top: 1},
		{Hi: true, T: 991, D: 983, V: 900, Lo: 1, Top: 984}, {Hi: true, T: 991, D: 983, V: 900, Lo: 901, Top: 983}, {T: 991, D: 983, V: 983, Lo: -1, Top: -1},
		task(983, 991), task(1001, 1001), task(1009, 997), task(0, 0), task(0, 991), task(-1, -1), task(-991, 1), task(math.MinInt, 1), task(math.MaxInt, 997),
		task(991, math.MaxInt), task(991, math.MinInt), task(math.MaxInt, math.MaxInt), task(math.MinInt, math.MinInt), task(1<<32+30, 25), task(991, 1<<32+25),
	}
	return append(l, highTask(991, 983, math.MinInt), highTask(991, 983, math.MaxInt), highTask(991, 0, 0), highTask(0, 0, 0), highTask(1001, 983, 12))
}

func wrongServers() []conf.Server {
	l := []conf.Server{
		{}, {T: 991}, {C: 1}, {C: 992, T: 991}, {C: -1, T: 991}, {C: 1, T: 1001}, {C: 1, T: 1009}, {C: -1, T: -1}, {C: -991, T: -991},
		{C: 1, T: math.MaxInt}, {C: 1, T: math.MinInt}, {C: math.MaxInt, T: 991}, {C: math.MinInt, T: 991}, {C: math.MaxInt, T: math.MaxInt}, {C: 1, T: 1<<32 + 30},
	}
	for _, s := range l {
		s.Refill = true
		l = append(l, s)
	}
	return l
}

// round: the least number that the frame and all periods of what is right divide, found by trying one number behind the other.
func round(frame int, a conf.Part) (int, bool) {
	if frame < 1 {
		return 0, false
	}
	periods := []int{frame}
	for _, k := range a.Tasks {
		if rightTask(k) {
			periods = append(periods, k.T)
		}
	}
	for _, s := range a.Servers {
		if rightServer(s) {
			periods = append(periods, s.T)
		}
	}
	for n := 1; n <= most; n++ {
		if dividedBy(n, periods) {
			return n, true
		}
	}
	return 0, false
}

func dividedBy(n int, periods []int) bool {
	for _, p := range periods {
		if n%p != 0 {
			return false
		}
	}
	return true
}

// farOf: the least number that none of those that count is above, found by trying.
func farOf(a conf.Part) int {
	for n := 1; ; n++ {
		above := false
		for _, k := range a.Tasks {
			above = above || rightTask(k) && k.D > n
		}
		for _, s := range a.Servers {
			above = above || rightServer(s) && s.T > n
		}
		if !above {
			return n
		}
	}
}

// boundOf: both together, if there is such a bound.
func boundOf(frame int, a conf.Part) (int, bool) {
	n, ok := round(frame, a)
	if !ok || n+farOf(a) > most {
		return 0, false
	}
	return n + farOf(a), true
}

// allOf: of a whole system, each bound by itself first.
func allOf(c conf.Config) (int, int) {
	var bounds []int
	for p, a := range c.Parts {
		n, ok := boundOf(c.Frame, a)
		if !ok {
			return p, 0
		}
		bounds = append(bounds, n)
	}
	greatest := 0
	for _, n := range bounds {
		if n > greatest {
			greatest = n
		}
	}
	return -1, greatest
}

// kinds: periods to draw from: such as divide each other, such as have little or nothing in common, and any.
func kinds(r *rand.Rand) func() int {
	l := [][]int{{1, 2, 4, 8, 16, 32, 64, 128, 256, 512}, {5, 10, 20, 40, 50, 100, 200, 250, 500, 1000}, {6, 12, 15, 30, 60, 90, 360}, {2, 3, 5, 7, 11, 13, 17, 19, 23}, {36, 48, 100, 125, 144, 243, 625, 729}}
	if kind := r.IntN(len(l) + 1); kind < len(l) {
		return func() int { return l[kind][r.IntN(len(l[kind]))] }
	}
	return func() int { return 1 + r.IntN(1000) }
}

// drawn: a partition and a frame, by a rule that begins with seed; some of it may not be right.
func drawn(seed uint64) (int, conf.Part) {
	r := rand.New(rand.NewPCG(seed, 10))
	period := kinds(r)
	var a conf.Part
	for range r.IntN(7) {
		n := period()
		due := n - r.IntN(2)*r.IntN(n)
		if r.IntN(2) == 0 {
			a.Tasks = append(a.Tasks, task(n, due))
		} else {
			a.Tasks = append(a.Tasks, highTask(n, due, 1+r.IntN(due)))
		}
	}
	for range r.IntN(4) {
		n := period()
		a.Servers = append(a.Servers, conf.Server{Refill: r.IntN(2) == 0, C: 1 + r.IntN(n), T: n})
	}
	if wrong := wrongTasks(); r.IntN(3) == 0 {
		a.Tasks = append(a.Tasks, wrong[r.IntN(len(wrong))])
		r.Shuffle(len(a.Tasks), func(i, j int) { a.Tasks[i], a.Tasks[j] = a.Tasks[j], a.Tasks[i] })
	}
	if wrong := wrongServers(); r.IntN(3) == 0 {
		a.Servers = append([]conf.Server{wrong[r.IntN(len(wrong))]}, a.Servers...)
	}
	return min(period(), 256), a
}

// parts: partitions with tasks, servers, both and none, right ones among others, and more than there may be.
func parts() []conf.Part {
	l := []conf.Part{
		{}, {Tasks: []conf.Task{}, Servers: []conf.Server{}, Donees: []int{}}, {Donees: []int{1, 5, math.MaxInt}, Acts: [3]uint8{1, 2, 255}},
		example(), of(1), of(2, 4, 8), of(4, 6, 10), of(7, 7, 7), of(3, 5, 7, 11, 13), of(997), of(1000), of(999, 998, 997), of(256, 512, 1000),
		with(conf.Part{}, 1), with(conf.Part{}, 10, 25), with(conf.Part{}, 1000, 1000, 1000), with(conf.Part{}, 997, 991, 983), with(of(4, 6), 10),
		with(example(), 26), with(example(), 24), with(of(16, 81), 625), {Tasks: []conf.Task{highTask(1000, 1, 1)}}, {Tasks: []conf.Task{highTask(40, 40, 1), task(8, 3)}},
		{Tasks: wrongTasks(), Servers: wrongServers()},
		{Tasks: append(wrongTasks(), task(30, 25)), Servers: append(wrongServers(), refilled(12))},
		{Tasks: append([]conf.Task{task(30, 25)}, wrongTasks()...), Servers: append([]conf.Server{refilled(12)}, wrongServers()...)},
		with(of(1, 2, 3, 4, 5, 6, 8, 10, 12, 15, 16, 20, 24, 30, 40, 48, 60, 80, 120, 240), 1, 2, 3, 4, 5, 6, 240),
	}
	for seed := range uint64(150) {
		_, a := drawn(seed)
		l = append(l, a)
	}
	return l
}

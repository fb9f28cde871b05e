package admit

import (
	"math"
	"math/rand/v2"
	"testing"

	"parclose/api"
	"parclose/conf"
	"parclose/valid"
)

// edges: numbers about which an answer may turn, or an int wrap round.
var edges = []int{
	math.MinInt, math.MinInt + 1, -1 << 62, -1<<40 - 1, -1 << 40, -1 << 32, -65537, -1000, -256, -11, -10, -2, -1,
	0, 1, 2, 3, 4, 5, 6, 7, 8, 9, 10, 11, 15, 16, 20, 21, 59, 60, 61, 100, 119, 120, 121, 255, 256, 257, 999, 1000, 1001, 65535, 65536, 65537,
	1 << 31, 1 << 32, 1<<32 + 1, 1<<40 - 1000, 1<<40 - 1, 1 << 40, 1<<40 + 1, 1<<40 + 7, 1<<40 + 1000, 1 << 41, 1 << 50, 1<<50 + 3,
	1<<62 - 1, 1 << 62, math.MaxInt - 1000, math.MaxInt - 1, math.MaxInt,
}

// modes: the low one first.
var modes = []bool{false, true}

// low: a task that is not Hi.
func low(period, due, budget int) conf.Task {
	return conf.Task{T: period, D: due, V: due, Lo: budget, Top: budget}
}

// high: one that is.
func high(period, due, early, budget, top int) conf.Task {
	return conf.Task{Hi: true, T: period, D: due, V: early, Lo: budget, Top: top}
}

// of: a partition of tasks alone.
func of(l ...conf.Task) conf.Part { return conf.Part{Tasks: l} }

func win(at, length, p int) conf.Window { return conf.Window{At: at, Len: length, Part: p} }

// alone: a system of one partition, which has the frame's first ticks.
func alone(frame, open int, a conf.Part) conf.Config {
	c := conf.Config{Frame: frame, Parts: []conf.Part{a}}
	if open > 0 {
		c.Windows = []conf.Window{win(0, open, 0)}
	}
	return c
}

// shared: a system whose partitions share a frame evenly, the first one first.
func shared(frame int, l ...conf.Part) conf.Config {
	c := conf.Config{Frame: frame, Parts: l}
	for p := range l {
		c.Windows = append(c.Windows, win(p*(frame/len(l)), frame/len(l), p))
	}
	return c
}

// example: the chapter's: it breaks at 10.
func example() conf.Config { return alone(10, 3, of(low(10, 10, 4))) }

// none: a partition without a bound, with whatever frame.
func none() conf.Part { return of(low(997, 997, 1), low(991, 991, 1), low(983, 983, 1)) }

// The partitions that follow are for half of a frame of 20, as shared gives it to one of two.

// light: none of its phases breaks.
func light() conf.Part { return of(low(40, 40, 2), high(60, 60, 40, 3, 8)) }

// lowBreaks: just its low phase breaks, at 20.
func lowBreaks() conf.Part { return of(low(20, 20, 11)) }

// highBreaks: just its high phase does, at 20.
func highBreaks() conf.Part { return of(high(40, 40, 20, 4, 18)) }

// bothBreak: the low phase does at 20, and the high one at 0.
func bothBreak() conf.Part { return of(high(20, 20, 20, 2, 9), low(20, 20, 9)) }

// lowFirst: the low phase does at 5, and the high one at 20.
func lowFirst() conf.Part { return of(high(40, 40, 20, 4, 18), low(20, 5, 1)) }

// late: all ticks are open, and just of a whole round one more is asked for; the bound is the greatest that there is.
func late() conf.Config { return alone(1, 1, of(low(255, 255, 1), low(256, 256, 255))) }

// behind: it breaks behind the round, at 199, the last number that is no round more than one from far on.
func behind() conf.Config {
	a := of(low(100, 99, 99))
	a.Servers = []conf.Server{{Refill: true, C: 1, T: 100}}
	return alone(100, 100, a)
}

// openTo: is each place of a frame open to p? Worked out of the windows, without a table.
func openTo(c conf.Config, p int) []bool {
	l := make([]bool, c.Frame)
	for _, w := range c.Windows {
		for i := range w.Len {
			l[w.At+i] = w.Part == p && i >= c.Margin
		}
	}
	return l
}

// offered: for each number of ticks up to n the least number of open ones in so many: counted from each tick of a frame on.
func offered(c conf.Config, p, n int) []int {
	open := openTo(c, p)
	least := make([]int, n+1)
	for from := range open {
		sum := 0
		for i := range least {
			if from == 0 || sum < least[i] {
				least[i] = sum
			}
			if open[(from+i)%len(open)] {
				sum++
			}
		}
	}
	return least
}

// again: adds what comes of a first job to l, and a period later as much as a period ago and a whole job.
func again(l []int, period, job int, first func(t int) (int, bool)) {
	own := make([]int, len(l))
	for t := range own {
		if some, ok := first(t); ok {
			own[t] = some
		} else if t >= period {
			own[t] = own[t-period] + job
		}
		l[t] += own[t]
	}
}

// askedTask: adds what a task asks for.
func askedTask(l []int, k conf.Task, high bool) {
	switch {
	case !high:
		// The first job arrives at once.
		again(l, k.T, k.Lo, func(t int) (int, bool) { return k.Lo, t >= k.V && t < k.V+k.T })
	case k.Hi:
		// The last job is due with the last tick; where it is the only one, it was done as far as low mode had to by now.
		again(l, k.T, k.Top, func(t int) (int, bool) {
			arrived := t - k.D
			return k.Top - max(0, k.Lo-max(0, arrived+k.V)), arrived >= -k.V && arrived < k.T-k.V
		})
	}
}

// askedServer: adds what a server is asked for: each whole period's, or, of one that is filled again, each begun period's behind the first whole one.
func askedServer(l []int, s conf.Server) {
	begun, whole := 0, 0
	for t := 1; t < len(l); t++ {
		if (t-1)%s.T == 0 {
			begun++
		}
		if t%s.T == 0 {
			whole++
		}
		if !s.Refill {
			l[t] += s.C * whole
		} else if whole > 0 {
			l[t] += s.C * begun
		}
	}
}

// asked: for each number of ticks up to n what the tasks and servers ask for.
func asked(a conf.Part, n int, high bool) []int {
	l := make([]int, n+1)
	for _, k := range a.Tasks {
		askedTask(l, k, high)
	}
	for _, s := range a.Servers {
		if !high {
			askedServer(l, s)
		}
	}
	return l
}

// slacks: of each number of ticks up to n, counted.
func slacks(c conf.Config, p, n int, high bool) []int {
	l, less := offered(c, p, n), asked(c.Parts[p], n, high)
	for t := range l {
		l[t] -= less[t]
	}
	return l
}

// firstBelow: the first place of a number below 0.
func firstBelow(l []int) (int, bool) {
	for t, n := range l {
		if n < 0 {
			return t, true
		}
	}
	return 0, false
}

// boundOf: the bound of a partition, found by trying rounds; 0, if there is none.
func boundOf(c conf.Config, p int) int {
	far, periods := 1, []int{c.Frame}
	for _, k := range c.Parts[p].Tasks {
		far, periods = max(far, k.D), append(periods, k.T)
	}
	for _, s := range c.Parts[p].Servers {
		far, periods = max(far, s.T), append(periods, s.T)
	}
	for round := c.Frame; round+far <= 65536; round += c.Frame {
		divided := true
		for _, n := range periods {
			divided = divided && round%n == 0
		}
		if divided {
			return round + far
		}
	}
	return 0
}

// tried: so far is tried one number after the other: far beyond the bound, if that is small.
func tried(bound int) int {
	if bound > 20000 {
		return bound + 2000
	}
	return 2*bound + 500
}

// breaksOf: where a phase of a system that may be breaks first, by trying one number after the other.
func breaksOf(c conf.Config, p int, high bool) (int, bool) {
	bound := boundOf(c, p)
	if bound == 0 {
		return 0, false
	}
	return firstBelow(slacks(c, p, tried(bound), high))
}

// judgedOf: the verdict on a system, by trying.
func judgedOf(c conf.Config) (Verdict, api.Errno) {
	if err, _ := valid.Check(c); err != api.OK {
		return Verdict{}, err
	}
	for p := range c.Parts {
		if boundOf(c, p) == 0 {
			return Verdict{Kind: 2, Part: p}, api.OK
		}
	}
	for p := range c.Parts {
		for _, high := range modes {
			if t, ok := breaksOf(c, p, high); ok {
				return Verdict{Kind: 1, Part: p, High: high, T: t}, api.OK
			}
		}
	}
	return Verdict{}, api.OK
}

// wrong: a system that may not be, and the error that it has.
type wrong struct {
	c   conf.Config
	err api.Errno
}

// wrongs: a system of each of Check's errors; some of them would break, some have no bound.
func wrongs() []wrong {
	var l []wrong
	for _, start := range []func() conf.Config{example, func() conf.Config { return shared(20, light(), none()) }, func() conf.Config { return shared(20, light(), light()) }} {
		with := func(err api.Errno, change func(c *conf.Config)) {
			c := start()
			change(&c)
			l = append(l, wrong{c, err})
		}
		with(api.ErrFrame, func(c *conf.Config) { c.Frame = 0 })
		with(api.ErrFrame, func(c *conf.Config) { c.Frame = -10 })
		with(api.ErrFrame, func(c *conf.Config) { c.Frame = 257 })
		with(api.ErrFrame, func(c *conf.Config) { c.Frame = math.MaxInt })
		with(api.ErrFrame, func(c *conf.Config) { c.Frame = math.MinInt })
		with(api.ErrFrame, func(c *conf.Config) { c.Margin = -1 })
		with(api.ErrFrame, func(c *conf.Config) { c.Margin = 9 })
		with(api.ErrArg, func(c *conf.Config) { c.Parts = nil })
		with(api.ErrArg, func(c *conf.Config) { c.Parts = []conf.Part{} })
		with(api.ErrArg, func(c *conf.Config) { c.Parts = make([]conf.Part, 7) })
		with(api.ErrWindow, func(c *conf.Config) { c.Windows[0].Len = 0 })
		with(api.ErrWindow, func(c *conf.Config) { c.Windows[0].Len = math.MaxInt })
		with(api.ErrWindow, func(c *conf.Config) { c.Windows[0].Part = len(c.Parts) })
		with(api.ErrWindow, func(c *conf.Config) { c.Windows[0].Part = -1 })
		with(api.ErrWindow, func(c *conf.Config) { c.Windows = make([]conf.Window, 33) })
		with(api.ErrTask, func(c *conf.Config) { c.Parts[0].Tasks[0].Lo = 0 })
		with(api.ErrTask, func(c *conf.Config) { c.Parts[0].Tasks[0].T = math.MaxInt })
		with(api.ErrTask, func(c *conf.Config) { c.Parts[0].Tasks = make([]conf.Task, 7) })
		with(api.ErrServer, func(c *conf.Config) { c.Parts[0].Servers = []conf.Server{{C: 2, T: 1}} })
		with(api.ErrServer, func(c *conf.Config) {
			c.Parts[0].Servers = []conf.Server{{C: 1, T: 10}, {C: 1, T: 10}, {C: 1, T: 10}, {C: 1, T: 10}}
		})
		with(api.ErrHealth, func(c *conf.Config) { c.Parts[0].Acts[1] = 3 })
		with(api.ErrDonee, func(c *conf.Config) { c.Parts[0].Donees = []int{0} })
		with(api.ErrDonee, func(c *conf.Config) { c.Parts[0].Donees = []int{math.MinInt} })
		with(api.ErrChannel, func(c *conf.Config) { c.Chans = []conf.Channel{{From: 0, To: 0, Size: 1}} })
		with(api.ErrChannel, func(c *conf.Config) { c.Chans = make([]conf.Channel, 9) })
		// The first one of several is told.
		with(api.ErrFrame, func(c *conf.Config) { c.Frame, c.Parts, c.Chans = 0, nil, make([]conf.Channel, 9) })
		with(api.ErrWindow, func(c *conf.Config) { c.Windows[0].Len, c.Parts[0].Tasks[0].T = 0, 0 })
	}
	return append(l, wrong{conf.Config{}, api.ErrFrame}, wrong{conf.Config{Frame: 10}, api.ErrArg})
}

// drawnTask: a right one, of a period that is drawn.
func drawnTask(r *rand.Rand, period, parts int) conf.Task {
	k := conf.Task{Hi: r.IntN(2) == 0, T: period, D: period - r.IntN(2)*r.IntN(period)}
	k.V = k.D
	if k.Hi {
		k.V -= r.IntN(2) * r.IntN(k.D)
	}
	k.Lo = min(k.V, 1+r.IntN(1+period/(3*parts)))
	k.Top = k.Lo
	if k.Hi {
		k.Top += r.IntN(1 + min(k.D-k.Lo, period/(2*parts)))
	}
	return k
}

// drawnServer: a right one.
func drawnServer(r *rand.Rand, period, parts int) conf.Server {
	return conf.Server{Refill: r.IntN(2) == 0, C: min(period, 1+r.IntN(1+period/(6*parts))), T: period}
}

// drawnWindows: windows and gaps that fill a frame.
func drawnWindows(r *rand.Rand, frame, parts int) []conf.Window {
	var l []conf.Window
	most, gaps := 1+r.IntN(1+frame/3), r.IntN(2)
	for at := 0; at < frame && len(l) < 32; {
		length := min(1+r.IntN(most), frame-at)
		if p := r.IntN(parts + gaps); p < parts {
			l = append(l, win(at, length, p))
		}
		at += length
	}
	return l
}

// drawn: a system that may be, by a rule that begins with seed; its periods have much in common, so that bounds are small.
func drawn(seed uint64) conf.Config {
	r := rand.New(rand.NewPCG(seed, 11))
	kinds := [][]int{{4, 8, 16, 32, 64}, {10, 20, 40, 50, 100}, {6, 12, 15, 30, 60, 90}, {7, 14, 21, 42}, {1, 2, 3, 5, 30}}
	periods := kinds[r.IntN(len(kinds))]
	period := func() int { return periods[r.IntN(len(periods))] }
	c := conf.Config{Frame: period(), Parts: make([]conf.Part, 1+r.IntN(3))}
	if r.IntN(3) == 0 {
		c.Margin = r.IntN(3)
	}
	c.Windows = drawnWindows(r, c.Frame, len(c.Parts))
	for p := range c.Parts {
		for range r.IntN(4) {
			c.Parts[p].Tasks = append(c.Parts[p].Tasks, drawnTask(r, period(), len(c.Parts)))
		}
		for range r.IntN(6) / 3 {
			c.Parts[p].Servers = append(c.Parts[p].Servers, drawnServer(r, period(), len(c.Parts)))
		}
	}
	return c
}

// chosen: systems that may be, of which each has something of its own.
func chosen() []conf.Config {
	refill := conf.Part{Servers: []conf.Server{{Refill: true, C: 3, T: 10}}}
	steady := conf.Part{Servers: []conf.Server{{C: 3, T: 10}}}
	margin := alone(10, 10, of(low(10, 10, 9)))
	margin.Margin = 2
	l := []conf.Config{
		example(), alone(10, 4, of(low(10, 10, 4))), margin,
		alone(1, 0, conf.Part{}), alone(1, 1, conf.Part{}), alone(256, 0, conf.Part{}), alone(256, 256, of(low(1, 1, 1))), alone(256, 0, of(low(1, 1, 1))),
		alone(10, 3, refill), alone(10, 3, steady), alone(10, 6, refill), alone(10, 2, steady), alone(20, 0, steady), alone(20, 20, refill),
		alone(10, 10, of(high(10, 10, 10, 3, 8))), alone(10, 10, of(high(10, 10, 9, 3, 8))), alone(10, 10, of(high(10, 10, 5, 3, 8))), alone(10, 10, of(high(10, 10, 3, 3, 8))),
		alone(10, 10, of(high(10, 10, 10, 3, 3))), alone(10, 0, of(high(10, 10, 10, 3, 3))), alone(10, 10, of(high(10, 8, 8, 1, 2))),
		shared(20, light(), light()), shared(20, lowBreaks(), light()), shared(20, light(), lowBreaks()), shared(20, highBreaks(), light()),
		shared(20, light(), highBreaks()), shared(20, bothBreak(), light()), shared(20, light(), bothBreak()), shared(20, highBreaks(), lowBreaks()),
		shared(20, lowFirst(), bothBreak()), shared(20, bothBreak(), lowFirst()), late(), behind(),
		shared(20, lowBreaks(), highBreaks()), shared(20, none(), light()), shared(20, light(), none()), shared(20, none(), none()), shared(20, lowBreaks(), none()),
		shared(60, light(), bothBreak(), none(), conf.Part{}, highBreaks(), lowBreaks()),
		{Frame: 12, Windows: []conf.Window{win(0, 1, 0), win(4, 2, 0), win(8, 1, 0)}, Parts: []conf.Part{of(low(12, 12, 4)), {}}},
		{Frame: 12, Windows: []conf.Window{win(0, 1, 0), win(4, 2, 0), win(8, 1, 0)}, Parts: []conf.Part{of(low(12, 4, 1)), {}}},
	}
	// What is told of neither donees, acts nor channels.
	other := shared(20, light(), highBreaks())
	other.Parts[0].Donees, other.Parts[1].Acts = []int{1}, [3]uint8{1, 2, 0}
	other.Chans = []conf.Channel{{Queue: true, From: 0, To: 1, Size: 3}}
	return append(l, other)
}

// systems: chosen ones and drawn ones, all of which may be.
func systems(t *testing.T, drawnOnes int) []conf.Config {
	t.Helper()
	l := chosen()
	for seed := range drawnOnes {
		l = append(l, drawn(uint64(seed)))
	}
	for _, c := range l {
		if err, at := valid.Check(c); err != api.OK {
			t.Fatalf("%+v: error %d at %d", c, err, at)
		}
	}
	return l
}

package demand

import (
	"parclose/api"
	"parclose/conf"
)

// mostSteps: steps are told up to that number of ticks.
const mostSteps = 1 << 16

// Steps: the numbers of ticks from 1 to most whose demand is another one than that of one tick less, rising.
func Steps(a conf.Part, most int, high bool) []int {
	met := make([]bool, held(most, mostSteps)+1)
	newRises(a, high).each(func(first, every int) {
		for t := first; t < len(met); t += every {
			met[t] = true
		}
	})
	var l []int
	for t := 1; t < len(met); t++ {
		if met[t] {
			l = append(l, t)
		}
	}
	return l
}

// rises: where a partition's demand rises. As no demand ever falls, there is a step wherever that of a single task or server rises; so they are kept by their periods, and long lists cost no more than short ones once they are gone through.
type rises struct {
	// once: at such a tick, and not because of what comes again.
	once []bool
	// again: for each period, at such a tick and whole periods behind it.
	again [][]bool
}

func newRises(a conf.Part, high bool) *rises {
	r := &rises{once: make([]bool, api.MaxPeriod+1), again: make([][]bool, api.MaxPeriod+1)}
	for _, task := range a.Tasks {
		if counts(task, high) {
			r.addTask(task, high)
		}
	}
	for _, s := range a.Servers {
		if s.Right() && !high {
			r.addServer(s)
		}
	}
	return r
}

// addTask: in high mode a period's demand comes with what was done already taken off, and that is given back tick by tick.
func (r *rises) addTask(task conf.Task, high bool) {
	if !high {
		r.add(task.T, task.V, task.V)
		return
	}
	from := task.D - task.V
	to := from + task.Lo
	if task.Top == task.Lo {
		// All that comes was done.
		from++
	}
	r.add(task.T, from, to)
}

// addServer: the first period of one with Refill is asked for a tick earlier than those behind it.
func (r *rises) addServer(s conf.Server) {
	if !s.Refill {
		r.add(s.T, s.T, s.T)
		return
	}
	r.once[s.T] = true
	r.add(s.T, s.T+1, s.T+1)
}

// add: it rises at the ticks from from to to, at most one behind the period, and periods behind them.
func (r *rises) add(period, from, to int) {
	if r.again[period] == nil {
		r.again[period] = make([]bool, period+2)
	}
	for t := from; t <= to; t++ {
		r.again[period][t] = true
	}
}

// each: does it for each tick at which it rises, and how far behind it the next one is that comes of it.
func (r *rises) each(do func(first, every int)) {
	for first, is := range r.once {
		if is {
			// So far that it doesn't come again.
			do(first, mostSteps)
		}
	}
	for period, row := range r.again {
		for first, is := range row {
			if is {
				do(first, period)
			}
		}
	}
}

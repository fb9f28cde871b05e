package part_test

import (
	"math/rand/v2"
	"testing"

	"parclose/api"
	"parclose/bound"
	"parclose/conf"
	"parclose/demand"
	"parclose/part"
	"parclose/tasks"
)

// fits: is the demand of any t ticks, in both modes, at most t? And is it just t of some, in low mode, in high mode?
func fits(a conf.Part) (ok, low, high bool) {
	most, has := bound.Of(1, a)
	round, _ := bound.Hyper(1, a)
	if !has || demand.Rate(round, a, false) > round || demand.Rate(round, a, true) > round {
		return false, false, false
	}
	// High mode may ask for something at once, of no ticks.
	for t := range most + 1 {
		l, h := demand.Low(a, t), demand.High(a, t)
		if l > t || h > t {
			return false, false, false
		}
		low = low || t > 0 && l == t
		high = high || t > 0 && h == t
	}
	return true, low, high
}

// ofPeriods: a task or server of one of a few periods, so that all of them come together again soon.
func ofPeriods(r *rand.Rand) int { return []int{2, 3, 4, 5, 6, 8, 10, 12, 15, 20, 24}[r.IntN(11)] }

func fittingTask(r *rand.Rand) conf.Task {
	period := ofPeriods(r)
	deadline := period - r.IntN(1+period/3)
	budget := 1 + r.IntN(1+deadline/4)
	if r.IntN(3) == 0 {
		return conf.Task{T: period, D: deadline, V: deadline, Lo: budget, Top: budget}
	}
	top := budget + r.IntN(min(deadline-budget, 6)+1)
	return conf.Task{Hi: true, T: period, D: deadline, V: budget + r.IntN(deadline-budget+1), Lo: budget, Top: top}
}

// fitting: a drawn partition that fits, with as much in it as it takes of what was drawn.
func fitting(r *rand.Rand) conf.Part {
	var a conf.Part
	for range 40 {
		b := a
		if s := ofPeriods(r); r.IntN(4) == 0 && len(a.Servers) < maxServers {
			b.Servers = append(append([]conf.Server(nil), a.Servers...), conf.Server{Refill: r.IntN(2) == 0, C: 1 + r.IntN(1+s/4), T: s})
		} else if len(a.Tasks) < maxTasks {
			b.Tasks = append(append([]conf.Task(nil), a.Tasks...), fittingTask(r))
		}
		if ok, _, _ := fits(b); ok {
			a = b
		}
	}
	return a
}

// asked: a request that nothing waited ahead of, when it came, and by when it is to be served.
type asked struct{ number, by int }

// machine: a Part that begins and runs at each tick.
type machine struct {
	t *testing.T
	a conf.Part
	c *part.Part
	r *rand.Rand
	// now: the tick that comes.
	now int
	// jobs: of each task, by when the one that is there has to be done; only where its work is none above Top.
	jobs map[int]int
	// numbers: of each server, how many requests it took. asks: those that are to be served in time.
	numbers [maxServers]int
	asks    map[int]asked
	// What came about: how often it rose, requests were served, and jobs ended, and did so at the very last tick, in both modes.
	rose, served int
	ended, last  [2]int
}

func newMachine(t *testing.T, a conf.Part, r *rand.Rand, start int) *machine {
	c := part.New(a, start)
	if c == nil {
		t.Fatalf("New of %v: nil", a)
	}
	return &machine{t: t, a: a, c: c, r: r, now: start, jobs: map[int]int{}, asks: map[int]asked{}}
}

func (m *machine) fail(what string) {
	m.t.Helper()
	m.t.Fatalf("%s at %d: of %v, jobs %v, due %v, asks %v, high %v", what, m.now, m.a, m.c.Jobs(), m.jobs, m.asks, m.c.High())
}

// arrive: as police tells it, and whether it may be is not asked here.
func (m *machine) arrive(task, work int) {
	x := m.a.Tasks[task]
	if m.c.Arrive(m.now, tasks.Job{Task: task, Work: work}) == api.OK {
		m.jobs[task] = m.now + x.D
	}
}

// within: so many ticks, of a server and a work.
func within(s conf.Server, work int) int { return s.T * ((work+s.C-1)/s.C + 1) }

func (m *machine) request(server, work int) {
	alone := m.c.Queue(server) == 0
	if m.c.Request(server, work) != api.OK {
		return
	}
	m.numbers[server]++
	if alone && !m.c.High() {
		m.asks[server] = asked{m.numbers[server], m.now + within(m.a.Servers[server], work)}
	}
}

// step: what came at this tick is done; it begins, and runs.
func (m *machine) step() {
	m.t.Helper()
	for _, e := range m.c.Begin(m.now) {
		if e.Kind == part.Missed {
			m.fail("a job is missed")
		}
	}
	high := m.c.High()
	_, _, l := m.c.Run()
	for _, e := range l {
		m.heed(e, high)
	}
	m.now++
	for _, x := range m.asks {
		if x.by <= m.now {
			m.fail("a request is not served in time")
		}
	}
}

// heed: an event of a Run, ahead of which the mode was this.
func (m *machine) heed(e part.Event, high bool) {
	mode := 0
	if high {
		mode = 1
	}
	switch e.Kind {
	case part.Ended, part.Over:
		if m.now+1 == m.jobs[e.A] {
			m.last[mode]++
		}
		m.ended[mode]++
		delete(m.jobs, e.A)
	case part.Dropped:
		delete(m.jobs, e.A)
	case part.Rose:
		m.rose++
		clear(m.asks)
	case part.Served:
		m.served++
		if x, ok := m.asks[e.A]; ok && x.number == e.B {
			delete(m.asks, e.A)
		}
	}
}

// work: of a task's job; most often up to Lo or Top, at times more.
func (m *machine) work(task, kind int) int {
	x := m.a.Tasks[task]
	switch kind {
	case 0:
		return x.Lo
	case 1:
		return x.Top
	case 2:
		return 1 + m.r.IntN(x.Lo)
	case 3:
		return 1 + m.r.IntN(x.Top)
	case 4:
		if m.r.IntN(6) == 0 {
			return x.Top
		}
		return x.Lo
	}
	return x.Top + m.r.IntN(3)
}

// come: what arrives at this tick: of so many of ten jobs and requests that may come, work of a kind.
func (m *machine) come(often, kind int) {
	for task := range m.a.Tasks {
		if m.r.IntN(10) < often {
			m.arrive(task, m.work(task, kind))
		}
	}
	for server, s := range m.a.Servers {
		if m.r.IntN(20) < often {
			m.request(server, 1+m.r.IntN(3*s.C))
		}
	}
}

func TestP2006NoJobIsEverMissed(t *testing.T) {
	var tight [2]int
	var all machine
	for seed := range uint64(600) {
		r := rand.New(rand.NewPCG(seed, 2006))
		a := fitting(r)
		_, low, high := fits(a)
		for mode, is := range []bool{low, high} {
			if is {
				tight[mode]++
			}
		}
		for kind := range 6 {
			start := []int{0, r.IntN(1000), maxTick - 2000}[r.IntN(3)]
			m := newMachine(t, a, r, start)
			often := []int{10, 10, 5, 2, 8}[r.IntN(5)]
			for range 400 {
				m.come(often, kind)
				m.step()
			}
			all.rose += m.rose
			all.served += m.served
			for mode := range 2 {
				all.ended[mode] += m.ended[mode]
				all.last[mode] += m.last[mode]
			}
		}
	}
	// There is nothing in it, if they are never near to it.
	if tight[0] < 300 || tight[1] < 30 || all.rose < 5000 || all.served < 10000 || all.ended[0] < 50000 || all.ended[1] < 5000 || all.last[0] < 1000 || all.last[1] < 100 {
		t.Errorf("just of %v tight ones %d rose, %d were served, %v ended, %v of these at the last tick", tight, all.rose, all.served, all.ended, all.last)
	}
}

func TestP2006NoJobIsMissedBehindARestart(t *testing.T) {
	// It is as a new one then, but that jobs come no sooner.
	restarts := 0
	for seed := range uint64(200) {
		r := rand.New(rand.NewPCG(seed, 2007))
		m := newMachine(t, fitting(r), r, 0)
		for range 600 {
			m.come(8, r.IntN(6))
			if r.IntN(40) == 0 {
				m.c.Restart()
				clear(m.jobs)
				clear(m.asks)
				restarts++
			}
			m.step()
		}
	}
	if restarts < 1000 {
		t.Errorf("just %d restarts", restarts)
	}
}

// alone: partitions of a server, with nothing else, and with a task that takes what it leaves.
func alone(s conf.Server) []conf.Part {
	var l []conf.Part
	if ok, _, _ := fits(serving(s)); ok {
		l = append(l, serving(s))
	}
	for _, period := range []int{s.T, 2, 3, 2 * s.T} {
		// The most work that there is room for.
		for work := period; work >= 1; work-- {
			a := conf.Part{Tasks: []conf.Task{{T: period, D: period, V: period, Lo: work, Top: work}}, Servers: []conf.Server{s}}
			if ok, _, _ := fits(a); ok {
				l = append(l, a)
				break
			}
		}
	}
	return l
}

// lead: so many ticks, in a storm; at one of them some work is asked for.
func (m *machine) lead(ticks, at, work int) {
	for i := range ticks {
		if i == at && work > 0 {
			m.request(0, work)
		}
		m.storm()
		m.step()
	}
}

// storm: all jobs that may come do, of all their work.
func (m *machine) storm() {
	for task, x := range m.a.Tasks {
		m.arrive(task, x.Top)
	}
}

// waits: how many ticks a request takes that comes now; it is none that waits.
func (m *machine) waits(work int) int {
	m.t.Helper()
	from, was := m.now, m.served
	m.request(0, work)
	for m.served == was {
		m.storm()
		m.step()
	}
	return m.now - from
}

func TestP2006ARequestIsServedInTime(t *testing.T) {
	count, most := 0, 0.0
	for period := 1; period <= 6; period++ {
		for c := 1; c <= period; c++ {
			for _, s := range []conf.Server{plainServer(c, period), refilled(c, period)} {
				for _, a := range alone(s) {
					for place := range 3 * period {
						for ahead := range (2*c + 1) * period {
							for work := 1; work <= 2*c+1; work++ {
								m := newMachine(t, a, nil, 5)
								// What was asked ahead of it, at a place of its own.
								m.lead(place+period, ahead%period, ahead/period)
								if m.c.Queue(0) > 0 {
									continue
								}
								n := m.waits(work)
								if n > within(s, work) {
									m.fail("a request is not served in time")
								}
								count++
								most = max(most, float64(n)/float64(within(s, work)))
							}
						}
					}
				}
			}
		}
	}
	if count < 20000 || most < 0.8 {
		t.Errorf("just %d requests, which took %v of their time", count, most)
	}
}

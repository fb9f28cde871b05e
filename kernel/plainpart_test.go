package kernel_test

import (
	"cmp"
	"slices"

	"parclose/api"
	"parclose/conf"
	"parclose/journal"
	"parclose/part"
	"parclose/tasks"
)

// Where a tick of a server is: isLeft of a live chunk; isUsed of one, live or not.
const (
	isFree = iota
	isLeft
	isUsed
)

// plainTick: one of a server's ticks. at: when its chunk was laid; no two are laid at one tick.
type plainTick struct{ where, at int }

// plainAsk: a request that waits.
type plainAsk struct{ number, left int }

// plainServer: each of its ticks, and what was asked of it.
type plainServer struct {
	conf.Server
	start   int
	ticks   []plainTick
	asks    []plainAsk
	asked   int
	stopped bool
}

// back: is a tick that was used free from now on? Each tick begins, so those of one with Refill are just as a period does.
func (s *plainServer) back(x plainTick, now int) bool {
	if s.Refill {
		return now > s.start && (now-s.start)%s.T == 0
	}
	return now >= x.at+s.T && !slices.Contains(s.ticks, plainTick{isLeft, x.at})
}

func (s *plainServer) begin(now int) {
	was := slices.Clone(s.ticks)
	for i, x := range was {
		if x.where == isUsed && s.back(x, now) {
			s.ticks[i] = plainTick{}
		}
	}
	for i, x := range s.ticks {
		if x.where == isFree && len(s.asks) > 0 && !s.stopped {
			s.ticks[i] = plainTick{isLeft, now}
		}
	}
}

// first: a tick of the chunk that was laid first, of those that are live; -1, if none is.
func (s *plainServer) first() int {
	first := -1
	for i, x := range s.ticks {
		if x.where == isLeft && (first < 0 || x.at < s.ticks[first].at) {
			first = i
		}
	}
	return first
}

// done: no chunk is live.
func (s *plainServer) done() {
	for i, x := range s.ticks {
		if x.where == isLeft {
			s.ticks[i] = plainTick{}
		}
	}
}

// plainJob: one that is there, as it came, and how many ticks it ran.
type plainJob struct {
	task, arrived, work, ran int
	ops                      []tasks.Op
}

// plainPart: a partition, and all that is known of it.
type plainPart struct {
	a        conf.Part
	up, high bool
	jobs     []plainJob
	// last: when a job of each task was accepted last; -1, if none was.
	last    []int
	servers []*plainServer
	log     []journal.Entry
	faults  []int
}

func newPlainPart(a conf.Part, start int) *plainPart {
	b := &plainPart{a: a, up: true}
	for range a.Tasks {
		b.last = append(b.last, -1)
	}
	for _, s := range a.Servers {
		b.servers = append(b.servers, &plainServer{Server: s, start: start, ticks: make([]plainTick, s.C)})
	}
	return b
}

// at: where the job of a task is; -1, if there is none.
func (b *plainPart) at(task int) int {
	return slices.IndexFunc(b.jobs, func(j plainJob) bool { return j.task == task })
}

func (b *plainPart) arrive(now, task, work int, ops []tasks.Op) api.Errno {
	switch {
	case !b.up:
		return api.ErrDown
	case task < 0 || task >= len(b.a.Tasks):
		return api.ErrArg
	case b.high && !b.a.Tasks[task].Hi:
		return api.ErrDropped
	case b.last[task] >= 0 && now-b.last[task] < b.a.Tasks[task].T:
		return api.ErrSoon
	case work < 1 || work > maxWork || len(ops) > maxOps:
		return api.ErrArg
	case b.at(task) >= 0:
		return api.ErrThere
	}
	b.jobs = append(b.jobs, plainJob{task, now, work, 0, slices.Clone(ops)})
	b.last[task] = now
	return api.OK
}

func (b *plainPart) request(server, work int) api.Errno {
	switch {
	case !b.up:
		return api.ErrDown
	case server < 0 || server >= len(b.servers) || work < 1 || work > maxWork:
		return api.ErrArg
	case len(b.servers[server].asks) == maxQueue:
		return api.ErrFull
	}
	s := b.servers[server]
	s.asked++
	s.asks = append(s.asks, plainAsk{s.asked, work})
	return api.OK
}

// drop: those jobs are gone; what is seen of each, by tasks.
func (b *plainPart) drop(kind int, gone func(plainJob) bool) []journal.Entry {
	var l []journal.Entry
	for task := range b.a.Tasks {
		if at := b.at(task); at >= 0 && gone(b.jobs[at]) {
			l = append(l, journal.Entry{Kind: kind, A: task})
			b.jobs = slices.Delete(b.jobs, at, at+1)
		}
	}
	return l
}

// settle: these, and what comes of them.
func (b *plainPart) settle(l []journal.Entry) []journal.Entry {
	if !b.high || len(b.jobs) > 0 {
		return l
	}
	b.high = false
	for _, s := range b.servers {
		s.stopped = false
	}
	return append(l, journal.Entry{Kind: journal.Fell})
}

func (b *plainPart) begin(now int) []journal.Entry {
	if !b.up {
		return nil
	}
	l := b.settle(b.drop(journal.Missed, func(j plainJob) bool { return now >= j.arrived+b.a.Tasks[j.task].D }))
	for _, s := range b.servers {
		s.begin(now)
	}
	return l
}

// candidate: who may run, and when that is due.
type candidate struct {
	due  int
	what part.What
}

// pick: the candidate that is due earliest; of one time a job, and of these, or of servers, the lowest one.
func (b *plainPart) pick() (part.What, bool) {
	var l []candidate
	for _, j := range b.jobs {
		due := j.arrived + b.a.Tasks[j.task].V
		if b.high {
			due = j.arrived + b.a.Tasks[j.task].D
		}
		l = append(l, candidate{due, part.What{N: j.task}})
	}
	slices.SortFunc(l, func(x, y candidate) int { return cmp.Compare(x.what.N, y.what.N) })
	for n, s := range b.servers {
		if first := s.first(); first >= 0 && len(s.asks) > 0 {
			l = append(l, candidate{s.ticks[first].at + s.T, part.What{Server: true, N: n}})
		}
	}
	if len(l) == 0 || !b.up {
		return part.What{}, false
	}
	// Of several that are least this is the first one on the list.
	return slices.MinFunc(l, func(x, y candidate) int { return cmp.Compare(x.due, y.due) }).what, true
}

func (b *plainPart) runServer(n int) []journal.Entry {
	s := b.servers[n]
	s.ticks[s.first()].where = isUsed
	s.asks[0].left--
	x := s.asks[0]
	if x.left > 0 {
		return nil
	}
	s.asks = slices.Delete(s.asks, 0, 1)
	if len(s.asks) == 0 {
		s.done()
	}
	return []journal.Entry{{Kind: journal.Served, A: n, B: x.number}}
}

func (b *plainPart) runJob(task int) (tasks.Op, []journal.Entry) {
	at, x := b.at(task), b.a.Tasks[task]
	b.jobs[at].ran++
	j, op, most := b.jobs[at], tasks.Op{}, x.Lo
	if j.ran <= len(j.ops) {
		op = j.ops[j.ran-1]
	}
	if b.high {
		most = x.Top
	}
	switch {
	case j.ran == j.work:
		b.jobs = slices.Delete(b.jobs, at, at+1)
		return op, b.settle([]journal.Entry{{Kind: journal.Ended, A: task}})
	case j.ran < most:
		return op, nil
	case !b.high && x.Hi && x.Top > x.Lo:
		return op, b.rise()
	}
	b.jobs = slices.Delete(b.jobs, at, at+1)
	return op, b.settle([]journal.Entry{{Kind: journal.Over, A: task}})
}

func (b *plainPart) rise() []journal.Entry {
	b.high = true
	for _, s := range b.servers {
		s.done()
		s.stopped = true
	}
	l := b.drop(journal.Dropped, func(j plainJob) bool { return !b.a.Tasks[j.task].Hi })
	return append(l, journal.Entry{Kind: journal.Rose})
}

// empty: no jobs and requests, low mode, and all of each server is free.
func (b *plainPart) empty() {
	b.high, b.jobs = false, nil
	for _, s := range b.servers {
		s.asks, s.stopped = nil, false
		clear(s.ticks)
	}
}

func (b *plainPart) count(kind int) int {
	n := 0
	for _, x := range b.faults {
		if x == kind {
			n++
		}
	}
	return n
}

func (b *plainPart) told() []tasks.Job {
	var l []tasks.Job
	for task := range b.a.Tasks {
		if at := b.at(task); at >= 0 {
			j := b.jobs[at]
			l = append(l, tasks.Job{Task: task, Arrived: j.arrived, Work: j.work, Done: j.ran, Ops: slices.Clone(j.ops)})
		}
	}
	return l
}

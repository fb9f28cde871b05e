// The tests are of a package of their own, as all that they hold a Part to is told by its calls.
package part_test

import (
	"cmp"
	"math"
	"slices"

	"parclose/api"
	"parclose/conf"
	"parclose/part"
	"parclose/tasks"
)

// Of the document's words.
const (
	maxTasks   = 6
	maxServers = 3
	maxPeriod  = 1000
	maxQueue   = 8
	maxOps     = 64
	maxWork    = 1 << 20
	maxTick    = 1 << 62
)

// numbers: some about which an answer may turn, be they tasks', servers', ticks, or works.
var numbers = []int{
	math.MinInt, math.MinInt + 1, -maxTick - 1, -maxTick, -maxWork, -1000, -64, -7, -6, -2, -1, 0, 1, 2, 3, 4, 5, 6, 7, 8, 9, 10, 63, 64, 65, 255, 256,
	999, 1000, 1001, maxWork - 1, maxWork, maxWork + 1, 1 << 31, 1 << 32, 1<<32 + 1, maxTick - 1000, maxTick - 1, maxTick, maxTick + 1, maxTick + 1000, math.MaxInt - 1, math.MaxInt,
}

// Where a tick of a budget may be: isUsed in a chunk, or behind it.
const (
	isFree = iota
	isLeft
	isUsed
)

// plainTick: one of a budget's ticks, and which chunk of all that were ever laid it is of, and when that was.
type plainTick struct{ where, of, at int }

// plainBudget: each of its ticks, one by one, of both kinds.
type plainBudget struct {
	server  conf.Server
	start   int
	ticks   []plainTick
	last    int
	stopped bool
	laid    int
}

func newPlainBudget(s conf.Server, start int) *plainBudget {
	return &plainBudget{server: s, start: start, last: start, ticks: make([]plainTick, s.C)}
}

// begins: does a period begin at this very tick?
func (b *plainBudget) begins(now int) bool {
	return now >= b.start && (now-b.start)%b.server.T == 0
}

// began: does one, at a tick behind that of the last begin, up to now? As many ticks as a period has are looked at, one by one.
func (b *plainBudget) began(now int) bool {
	for at := now; at >= b.start && at > b.last && at > now-b.server.T; at-- {
		if b.begins(at) {
			return true
		}
	}
	return false
}

// lives: is a tick of that chunk left?
func (b *plainBudget) lives(of int) bool {
	return slices.ContainsFunc(b.ticks, func(x plainTick) bool { return x.where == isLeft && x.of == of })
}

// back: is a tick that was used free at now?
func (b *plainBudget) back(x plainTick, now int) bool {
	if b.server.Refill {
		return b.began(now)
	}
	return !b.lives(x.of) && x.at <= math.MaxInt-b.server.T && x.at+b.server.T <= now
}

func (b *plainBudget) begin(now int, busy bool) {
	for i, x := range b.ticks {
		if x.where == isUsed && b.back(x, now) {
			b.ticks[i] = plainTick{}
		}
	}
	b.last = now
	if !busy || b.stopped {
		return
	}
	for i, x := range b.ticks {
		if x.where == isFree {
			b.ticks[i] = plainTick{isLeft, b.laid, now}
		}
	}
	b.laid++
}

// first: a tick of the chunk that was laid first, of those of which ticks are left; -1, if there is none.
func (b *plainBudget) first() int {
	first := -1
	for i, x := range b.ticks {
		if x.where == isLeft && (first < 0 || x.of < b.ticks[first].of) {
			first = i
		}
	}
	return first
}

// due: a period behind when a tick's chunk was laid; or the greatest int, where that can't be told.
func (b *plainBudget) due(tick int) int {
	at := b.ticks[tick].at
	if at > math.MaxInt-b.server.T {
		return math.MaxInt
	}
	return at + b.server.T
}

// done: what is left of chunks is free.
func (b *plainBudget) done() {
	for i, x := range b.ticks {
		if x.where == isLeft {
			b.ticks[i] = plainTick{}
		}
	}
}

func (b *plainBudget) reset() {
	clear(b.ticks)
	b.stopped = false
}

// plainJob: one that is there, as it came, and how many ticks it ran.
type plainJob struct {
	task, arrived, work, ran int
	ops                      []tasks.Op
}

// plainAsk: a request that waits.
type plainAsk struct{ server, number, left int }

// plain: what a Part is held against: the jobs and requests that are there, as they came, and what is known of those before.
type plain struct {
	a        conf.Part
	up, high bool
	jobs     []plainJob
	asks     []plainAsk
	// accepted: all ticks at which jobs of a task were. asked: how many requests of a server were.
	accepted [maxTasks][]int
	asked    [maxServers]int
	budgets  []*plainBudget
}

func newPlain(a conf.Part, start int) *plain {
	b := &plain{a: conf.Part{Tasks: slices.Clone(a.Tasks), Servers: slices.Clone(a.Servers)}, up: true}
	for _, s := range a.Servers {
		b.budgets = append(b.budgets, newPlainBudget(s, start))
	}
	return b
}

// at: where the job of a task is; -1, if there is none.
func (b *plain) at(task int) int {
	return slices.IndexFunc(b.jobs, func(j plainJob) bool { return j.task == task })
}

// isTask: is there such a one?
func (b *plain) isTask(task int) bool { return 0 <= task && task < len(b.a.Tasks) }

// isServer: is there such a one?
func (b *plain) isServer(server int) bool { return 0 <= server && server < len(b.a.Servers) }

// soon: is now too near to the last one of a task that was accepted?
func (b *plain) soon(task, now int) bool {
	l := b.accepted[task]
	return len(l) > 0 && now < l[len(l)-1]+b.a.Tasks[task].T
}

func (b *plain) arrive(now int, j tasks.Job) api.Errno {
	switch {
	case !b.up:
		return api.ErrDown
	case !b.isTask(j.Task) || now < 0 || now > maxTick:
		return api.ErrArg
	case b.high && !b.a.Tasks[j.Task].Hi:
		return api.ErrDropped
	case b.soon(j.Task, now):
		return api.ErrSoon
	case j.Work < 1 || j.Work > maxWork || j.Done != 0 || len(j.Ops) > maxOps:
		return api.ErrArg
	case b.at(j.Task) >= 0:
		return api.ErrThere
	}
	b.jobs = append(b.jobs, plainJob{j.Task, now, j.Work, 0, slices.Clone(j.Ops)})
	b.accepted[j.Task] = append(b.accepted[j.Task], now)
	return api.OK
}

func (b *plain) request(server, work int) api.Errno {
	switch {
	case !b.up:
		return api.ErrDown
	case !b.isServer(server) || work < 1 || work > maxWork:
		return api.ErrArg
	case b.queue(server) == maxQueue:
		return api.ErrFull
	}
	b.asked[server]++
	b.asks = append(b.asks, plainAsk{server, b.asked[server], work})
	return api.OK
}

func (b *plain) queue(server int) int {
	n := 0
	for _, x := range b.asks {
		if x.server == server {
			n++
		}
	}
	return n
}

// drop: those jobs are gone; an event of each, by tasks.
func (b *plain) drop(kind int, gone func(plainJob) bool) []part.Event {
	var l []part.Event
	for task := range maxTasks {
		if at := b.at(task); at >= 0 && gone(b.jobs[at]) {
			l = append(l, part.Event{Kind: kind, A: task})
			b.jobs = slices.Delete(b.jobs, at, at+1)
		}
	}
	return l
}

// settle: the events, and what comes of that.
func (b *plain) settle(l []part.Event) []part.Event {
	if !b.high || len(b.jobs) > 0 {
		return l
	}
	b.high = false
	for _, x := range b.budgets {
		x.stopped = false
	}
	return append(l, part.Event{Kind: 5})
}

func (b *plain) begin(now int) []part.Event {
	if !b.up {
		return nil
	}
	l := b.drop(2, func(j plainJob) bool { return now >= j.arrived+b.a.Tasks[j.task].D })
	l = b.settle(l)
	for server, x := range b.budgets {
		x.begin(now, b.queue(server) > 0)
	}
	return l
}

// due: by when a job is to be done.
func (b *plain) due(j plainJob) int {
	if b.high {
		return j.arrived + b.a.Tasks[j.task].D
	}
	return j.arrived + b.a.Tasks[j.task].V
}

// candidate: who may run, and when that is due.
type candidate struct {
	due  int
	what part.What
}

// before: due earlier; of one time jobs first, then the lowest number.
func before(x, y candidate) int {
	late := func(server bool) int {
		if server {
			return 1
		}
		return 0
	}
	return cmp.Or(cmp.Compare(x.due, y.due), late(x.what.Server)-late(y.what.Server), x.what.N-y.what.N)
}

// candidates: all of them.
func (b *plain) candidates() []candidate {
	var l []candidate
	if !b.up {
		return nil
	}
	for server, x := range b.budgets {
		if first := x.first(); first >= 0 && b.queue(server) > 0 {
			l = append(l, candidate{x.due(first), part.What{Server: true, N: server}})
		}
	}
	for _, j := range b.jobs {
		l = append(l, candidate{b.due(j), part.What{N: j.task}})
	}
	return l
}

func (b *plain) pick() (part.What, bool) {
	l := b.candidates()
	if len(l) == 0 {
		return part.What{}, false
	}
	return slices.MinFunc(l, before).what, true
}

func (b *plain) run() (part.What, tasks.Op, []part.Event) {
	who, ok := b.pick()
	if !ok {
		return part.What{}, tasks.Op{}, nil
	}
	if who.Server {
		return who, tasks.Op{}, b.runServer(who.N)
	}
	op, l := b.runJob(who.N)
	return who, op, l
}

func (b *plain) runServer(server int) []part.Event {
	budget := b.budgets[server]
	budget.ticks[budget.first()].where = isUsed
	at := slices.IndexFunc(b.asks, func(x plainAsk) bool { return x.server == server })
	b.asks[at].left--
	x := b.asks[at]
	if x.left > 0 {
		return nil
	}
	b.asks = slices.Delete(b.asks, at, at+1)
	if b.queue(server) == 0 {
		budget.done()
	}
	return []part.Event{{Kind: 6, A: server, B: x.number}}
}

func (b *plain) runJob(task int) (tasks.Op, []part.Event) {
	at, x := b.at(task), b.a.Tasks[task]
	op := tasks.Op{}
	if j := b.jobs[at]; j.ran < len(j.ops) {
		op = j.ops[j.ran]
	}
	b.jobs[at].ran++
	j, most := b.jobs[at], x.Lo
	if b.high {
		most = x.Top
	}
	switch {
	case j.ran == j.work:
		b.jobs = slices.Delete(b.jobs, at, at+1)
		return op, b.settle([]part.Event{{Kind: 0, A: task}})
	case j.ran < most:
		return op, nil
	case !b.high && x.Hi && x.Top > x.Lo:
		return op, b.rise()
	}
	b.jobs = slices.Delete(b.jobs, at, at+1)
	return op, b.settle([]part.Event{{Kind: 1, A: task}})
}

func (b *plain) rise() []part.Event {
	b.high = true
	for _, x := range b.budgets {
		x.done()
		x.stopped = true
	}
	l := b.drop(4, func(j plainJob) bool { return !b.a.Tasks[j.task].Hi })
	return append(l, part.Event{Kind: 3})
}

func (b *plain) halt() {
	b.up, b.high, b.jobs, b.asks = false, false, nil, nil
	for _, x := range b.budgets {
		x.reset()
	}
}

func (b *plain) told() []tasks.Job {
	var l []tasks.Job
	for task := range maxTasks {
		if at := b.at(task); at >= 0 {
			j := b.jobs[at]
			l = append(l, tasks.Job{Task: j.task, Arrived: j.arrived, Work: j.work, Done: j.ran, Ops: slices.Clone(j.ops)})
		}
	}
	return l
}

package police_test

import (
	"math/rand/v2"
	"testing"

	"parclose/api"
	"parclose/conf"
)

// drawing: what a row of calls is drawn by.
type drawing struct {
	*both
	r *rand.Rand
	// now: about which ticks are drawn.
	now int
}

// drawnTask: one that is right, of a short period most often.
func drawnTask(r *rand.Rand) conf.Task {
	most := 30
	if r.IntN(4) == 0 {
		most = maxPeriod
	}
	period := 1 + r.IntN(most)
	deadline := 1 + r.IntN(period)
	budget := 1 + r.IntN(deadline)
	if r.IntN(2) == 0 {
		return conf.Task{T: period, D: deadline, V: deadline, Lo: budget, Top: budget}
	}
	return conf.Task{Hi: true, T: period, D: deadline, V: budget + r.IntN(deadline-budget+1), Lo: budget, Top: budget + r.IntN(deadline-budget+1)}
}

// newDrawing: of so many drawn tasks, at 0, somewhere, or near MaxTick.
func newDrawing(t *testing.T, count int, seed uint64) *drawing {
	r := rand.New(rand.NewPCG(seed, uint64(count)))
	var l []conf.Task
	for range count {
		l = append(l, drawnTask(r))
	}
	begin := []int{0, r.IntN(maxTick), maxTick - 1500}[r.IntN(3)]
	return &drawing{newBoth(t, l...), r, begin}
}

// any: most often one of so many from 0 on, or one next to these.
func (d *drawing) any(count int) int {
	if d.r.IntN(20) == 0 {
		return numbers[d.r.IntN(len(numbers))]
	}
	return d.r.IntN(count+2) - 1
}

// tick: about now, which goes on most often, and back at times; or just about where a task would be taken.
func (d *drawing) tick(task int) int {
	if d.r.IntN(30) == 0 {
		return numbers[d.r.IntN(len(numbers))]
	}
	if last, ok := d.b.last(task); ok && d.r.IntN(3) == 0 {
		return last + d.b.tasks[task].T + d.r.IntN(3) - 1
	}
	d.now += d.r.IntN(12) - d.r.IntN(4)
	if d.r.IntN(10) == 0 {
		d.now -= d.r.IntN(60)
	}
	if d.r.IntN(50) == 0 {
		d.now += d.r.IntN(900)
	}
	return d.now
}

// call: a Take most often.
func (d *drawing) call() {
	task := d.any(len(d.b.tasks))
	switch d.r.IntN(10) {
	case 0:
		d.drop(d.r.IntN(2) == 0)
	case 1:
		d.may(task, d.tick(task))
	case 2:
		d.last(task)
	case 3:
		d.dropped(task)
	default:
		d.take(task, d.tick(task))
	}
}

func TestP1602DrawnRowsOfCalls(t *testing.T) {
	for count := range maxTasks + 1 {
		for seed := range uint64(80) {
			d := newDrawing(t, count, seed)
			for range 200 {
				d.call()
				d.look()
				d.stop("drawn calls")
			}
			d.lookFar()
			d.stop("drawn calls")
		}
	}
}

func TestP1602AllShortRowsOfArrivals(t *testing.T) {
	const ticks, long = 7, 4
	for period := 1; period <= 4; period++ {
		for _, task := range []conf.Task{high(period), low(period)} {
			rows := 1
			for range long {
				rows *= ticks
			}
			for row := range rows {
				b := newBoth(t, task)
				for range long {
					b.take(0, row%ticks)
					b.last(0)
					row /= ticks
				}
				b.look()
				b.stop("a short row")
			}
		}
	}
}

// arrival: at a tick, and what it was answered.
type arrival struct {
	now     int
	err     api.Errno
	dropped bool
}

// apart holds a row of arrivals of a task to P1603, by their answers alone.
func apart(t *testing.T, task conf.Task, l []arrival) {
	t.Helper()
	last, some := 0, false
	for i, a := range l {
		soon := some && a.now < last+task.T
		switch {
		case a.err == api.OK && soon:
			t.Errorf("arrival %d: accepted at %d, and at %d ahead of it", i, a.now, last)
		case a.err == api.OK && a.dropped:
			t.Errorf("arrival %d: accepted at %d, and dropped", i, a.now)
		case a.err != api.OK && !soon && !a.dropped:
			t.Errorf("arrival %d: refused at %d, %d, and the last one was at %d", i, a.now, a.err, last)
		}
		if a.err == api.OK {
			last, some = a.now, true
		}
	}
	if t.Failed() {
		t.Fatalf("%v: %v", task, l)
	}
}

func TestP1603DrawnRowsOfArrivals(t *testing.T) {
	for count := 1; count <= maxTasks; count++ {
		for seed := range uint64(60) {
			d := newDrawing(t, count, 100+seed)
			rows := make([][]arrival, count)
			accepted, refused, drops := 0, 0, false
			for range 1500 {
				if d.r.IntN(40) == 0 {
					drops = !drops
					d.p.Drop(drops)
				}
				task := d.r.IntN(count)
				// From 0 to MaxTick, as what is no tick is no arrival.
				now := min(max(d.tick(task), 0), maxTick)
				err := d.p.Take(task, now)
				if err == api.OK {
					accepted++
					d.b.taken[task] = append(d.b.taken[task], now)
				} else {
					refused++
				}
				rows[task] = append(rows[task], arrival{now, err, drops && !d.b.tasks[task].Hi})
			}
			for task, l := range rows {
				apart(t, d.b.tasks[task], l)
			}
			if accepted == 0 || refused == 0 {
				t.Errorf("%d accepted, %d refused", accepted, refused)
			}
		}
	}
}

func TestP1603AsManyAsThereMayBe(t *testing.T) {
	// One at each tick: just each T-th is accepted, from the first one on.
	for _, period := range periods {
		for _, begin := range []int{0, 17, maxTick - 3500} {
			for _, task := range []conf.Task{high(period), low(period)} {
				b := newBoth(t, task)
				for i := range 3500 {
					want := api.ErrSoon
					if i%period == 0 {
						want = api.OK
					}
					if err := b.p.Take(0, begin+i); err != want {
						t.Fatalf("T %d: Take(0, %d): %d, not %d", period, begin+i, err, want)
					}
				}
			}
		}
	}
}

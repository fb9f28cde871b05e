package part

import (
	"parclose/api"
	"parclose/chunk"
	"parclose/conf"
	"parclose/refill"
	"parclose/ring"
)

// budget: the ticks of a server. There are two kinds of them, by when those that were used are back.
type budget interface {
	Go(now int, busy bool)
	Due() (int, bool)
	Use() bool
	Done()
	Stop()
	Resume()
	Reset()
}

// newBudget: of a server and a start that there may be.
func newBudget(s conf.Server, start int) budget {
	if s.Refill {
		return refill.New(s, start)
	}
	return chunk.New(s)
}

// request: its number, and the work that is left of it.
type request struct{ number, left int }

// desk: a server's budget, and its requests, as they came.
type desk struct {
	budget
	row *ring.Ring[request]
	// taken: so many ever were; the last one has this number.
	taken int
}

func newDesk(s conf.Server, start int) desk {
	return desk{budget: newBudget(s, start), row: ring.New[request](api.MaxQueue)}
}

// busy: are there requests?
func (d *desk) busy() bool { return d.row.Len() > 0 }

// take: is there room for one more request? It is the last one then.
func (d *desk) take(work int) bool {
	if !d.row.Push(request{d.taken + 1, work}) {
		return false
	}
	d.taken++
	return true
}

// begin: at a tick, the budget goes.
func (d *desk) begin(now int) { d.Go(now, d.busy()) }

// due: when its first live chunk is; false, if there is none, or nothing to do in it.
func (d *desk) due() (int, bool) {
	if !d.busy() {
		return 0, false
	}
	return d.Due()
}

// serve: a tick of the budget, and of the first request's work, is done. That one's number, if none is left of it; and is it?
func (d *desk) serve() (int, bool) {
	d.Use()
	first, _ := d.row.At(0)
	first.left--
	if first.left > 0 {
		d.row.Set(0, first)
		return 0, false
	}
	d.row.Pop()
	if !d.busy() {
		d.Done()
	}
	return first.number, true
}

// empty: no requests, and the budget is reset.
func (d *desk) empty() {
	d.row.Clear()
	d.Reset()
}

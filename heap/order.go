package heap

import (
	"cmp"
	"slices"
)

// top: the place of the first one.
const top = 0

// nowhere: the place of a number that is not in.
const nowhere = -1

// entry: a number that is in, and when it is due.
type entry struct{ id, due int }

// compare: below 0, if a is ahead of b. Nothing is taken from anything, as what is between two ints may be more than an int holds.
func compare(a, b entry) int {
	return cmp.Or(cmp.Compare(a.due, b.due), cmp.Compare(a.id, b.id))
}

// who: who is at each place.
type who []entry

// ahead: is the one at a place ahead of the one at another?
func (w who) ahead(at, other int) bool { return compare(w[at], w[other]) < 0 }

// where: at which place each number is.
type where []int

// put: a number is at a place.
func (w where) put(id, at int) { w[id] = at }

// order: both lists, each of which tells where to look in the other one; what a Heap embeds. No one is ahead of the one above it: that of place n is at the place (n-1)/2.
type order struct {
	who
	where
}

func newOrder(room int) order {
	return order{make(who, 0, room), slices.Repeat(where{nowhere}, room)}
}

// enter: one that was not in is.
func (o *order) enter(e entry) {
	at := len(o.who)
	o.who = append(o.who, e)
	o.put(e.id, at)
	o.settle(at)
}

// leave: the one at a place is in no more; the last one comes there, and may belong above or beneath it.
func (o *order) leave(at int) {
	last := len(o.who) - 1
	o.swap(at, last)
	o.put(o.who[last].id, nowhere)
	o.who = o.who[:last]
	if at < last {
		o.settle(at)
	}
}

// settle: the one at a place, which alone may be out of order, goes to where it belongs.
func (o *order) settle(at int) {
	up := func(at int) int {
		if above := max(at-1, top) / 2; o.ahead(at, above) {
			return above
		}
		return at
	}
	down := func(at int) int {
		first := at
		for beneath := 2*at + 1; beneath <= 2*at+2 && beneath < len(o.who); beneath++ {
			if o.ahead(beneath, first) {
				first = beneath
			}
		}
		return first
	}
	o.move(o.move(at, up), down)
}

// move: the one at a place goes on to where next tells, till that is where it is; there it ends.
func (o *order) move(at int, next func(at int) int) int {
	for to := next(at); to != at; to = next(at) {
		o.swap(at, to)
		at = to
	}
	return at
}

// swap: those at two places, which may be the same, change them.
func (o *order) swap(a, b int) {
	o.who[a], o.who[b] = o.who[b], o.who[a]
	o.put(o.who[a].id, a)
	o.put(o.who[b].id, b)
}

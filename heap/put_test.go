package heap

import (
	"math"
	"testing"
)

func TestP1202TheChaptersExample(t *testing.T) {
	h := New(10)
	h.Put(3, 9)
	h.Put(1, 4)
	h.Put(2, 9)
	for i, want := range []pair{{1, 4}, {2, 9}, {3, 9}} {
		if id, due, ok := h.Pop(); (pair{id, due}) != want || !ok {
			t.Errorf("popped as number %d: %d, %d, %v, not %v", i, id, due, ok, want)
		}
	}
	if id, due, ok := h.Pop(); id != 0 || due != 0 || ok {
		t.Errorf("behind these: %d, %d, %v", id, due, ok)
	}
}

func TestP1202PutOfAnyNumber(t *testing.T) {
	for _, room := range []int{0, 1, 2, 3, 255, 256, 1023, 1024} {
		for _, due := range dues {
			b := newBoth(t, room)
			for _, id := range append([]int{room - 1, room, room + 1, -room}, edges...) {
				b.put(id, due)
				b.due(id)
			}
			b.length()
			b.all()
		}
	}
}

func TestP1202PutOfOneThatIsInAndOnceItIsOut(t *testing.T) {
	for _, l := range heaps() {
		for _, due := range dues {
			b := of(t, 12, l...)
			for _, x := range l {
				b.put(x.id, due)
				b.put(x.id, x.due)
				b.look()
			}
			// Out by Remove, and in again.
			for _, x := range l {
				b.remove(x.id)
				b.put(x.id, due)
				b.put(x.id, due)
				b.look()
			}
			// Out by Pop.
			for range l {
				id, _, _ := b.p.first()
				b.pop()
				b.put(id, due)
				b.look()
			}
			b.popAll()
		}
	}
}

func TestP1202DueAtAnyTime(t *testing.T) {
	for _, one := range dues {
		for _, other := range dues {
			of(t, 3, pair{0, one}, pair{1, other}, pair{2, one}).look()
			b := of(t, 3, pair{2, other}, pair{0, one}, pair{1, other})
			b.look()
			b.popAll()
		}
	}
	// All of them, each twice.
	b := newBoth(t, 2*len(dues))
	for i := range 2 * len(dues) {
		b.put(i*5%(2*len(dues)), dues[i%len(dues)])
		b.look()
	}
	b.popAll()
}

func TestP1202ManyDueAtTheSame(t *testing.T) {
	for _, room := range []int{2, 3, 7, 8, 31, 64} {
		for _, due := range []int{math.MinInt, 0, math.MaxInt} {
			b := newBoth(t, room)
			// By a step that has no divisor with the room but 1, so that each one comes.
			for i := range room {
				b.put((room-1)*(i+1)%room, due)
				b.look()
			}
			b.popAll()
		}
	}
}

func TestP1202ChangeOfOneThatIsIn(t *testing.T) {
	for _, l := range heaps() {
		for _, x := range l {
			times := append([]int{x.due, x.due - 1, x.due + 1}, dues...)
			for _, y := range l {
				times = append(times, y.due-1, y.due, y.due+1)
			}
			for _, due := range times {
				b := of(t, 12, l...)
				b.change(x.id, due)
				b.look()
				b.change(x.id, x.due)
				b.look()
				b.change(x.id, due)
				b.popAll()
			}
		}
	}
}

func TestP1202ChangeOfNoneAndOfOneThatIsNotIn(t *testing.T) {
	for _, l := range heaps() {
		for _, due := range dues {
			b := of(t, 14, l...)
			for _, id := range append([]int{12, 13, 14, 15}, edges...) {
				b.change(id, due)
			}
			b.look()
			// What is out is not in, however it went.
			for _, x := range l {
				b.remove(x.id)
				b.change(x.id, due)
			}
			b.look()
			b = of(t, 14, l...)
			for range l {
				id, _, _ := b.p.first()
				b.pop()
				b.change(id, due)
				b.look()
			}
		}
	}
}

func TestP1202RemoveOfOneThatIsIn(t *testing.T) {
	for _, l := range heaps() {
		for _, x := range l {
			b := of(t, 12, l...)
			b.remove(x.id)
			b.look()
			b.remove(x.id)
			b.look()
			b.popAll()
		}
		// All of them, the first one again and again, then the last one, and those in the midst.
		for _, place := range []func(n int) int{func(int) int { return 0 }, func(n int) int { return n - 1 }, func(n int) int { return n / 2 }} {
			b := of(t, 12, l...)
			for n := len(l); n > 0; n-- {
				b.remove(b.p.list[place(n)].id)
				b.look()
			}
		}
	}
}

func TestP1202RemoveOfNoneAndOfOneThatIsNotIn(t *testing.T) {
	for _, l := range heaps() {
		b := of(t, 14, l...)
		for _, id := range append([]int{12, 13, 14, 15}, edges...) {
			if b.p.at(id) < 0 {
				b.remove(id)
			}
		}
		b.look()
		for range l {
			id, _, _ := b.p.first()
			b.pop()
			b.remove(id)
			b.look()
		}
	}
	b := newBoth(t, 1024)
	for _, id := range edges {
		b.remove(id)
	}
	b.look()
}

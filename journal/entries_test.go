package journal_test

import (
	"slices"
	"testing"

	"parclose/journal"
)

// same holds Same to what it is to answer, both ways round.
func same(t *testing.T, what string, a, b []journal.Entry, want bool) {
	t.Helper()
	if got := journal.Same(a, b); got != want {
		t.Errorf("%s: Same: %v", what, got)
	}
	if got := journal.Same(b, a); got != want {
		t.Errorf("%s: Same, the other way round: %v", what, got)
	}
}

func TestP2303SameOfNone(t *testing.T) {
	same(t, "nil and nil", nil, nil, true)
	same(t, "nil and empty", nil, []journal.Entry{}, true)
	same(t, "empty and empty", []journal.Entry{}, []journal.Entry{}, true)
	same(t, "empty, with room", make([]journal.Entry, 0, 5), row(3, 2)[:0], true)
	same(t, "nil and the zero entry", nil, []journal.Entry{{}}, false)
	same(t, "empty and one", []journal.Entry{}, row(0, 1), false)
}

func TestP2303SameOfLengths(t *testing.T) {
	for a := range 12 {
		for b := range 12 {
			same(t, "lengths", row(4, a), row(4, b), a == b)
			same(t, "lengths of zero entries", make([]journal.Entry, a), make([]journal.Entry, b), a == b)
		}
	}
}

func TestP2303SameOfOneFieldThatIsAnother(t *testing.T) {
	for _, count := range []int{1, 2, 3, 7, 100} {
		for _, place := range []int{0, 1, count / 2, count - 2, count - 1} {
			if place < 0 || place >= count {
				continue
			}
			for _, x := range append(slices.Clone(numbers), 10*place+3) {
				for field := range 4 {
					a, b := row(0, count), row(0, count)
					e := &b[place]
					into := []*int{&e.Tick, &e.Kind, &e.A, &e.B}[field]
					alikeStill := *into == x
					*into = x
					same(t, "one field", a, b, alikeStill)
				}
			}
		}
	}
}

// Numbers that differ in one bit alone differ, and what one field has more another one does not make good.
func TestP2303SameOfEachBit(t *testing.T) {
	for bit := range 64 {
		for field := range 4 {
			a, b := row(0, 3), row(0, 3)
			e := &b[1]
			*[]*int{&e.Tick, &e.Kind, &e.A, &e.B}[field] ^= 1 << bit
			same(t, "one bit", a, b, false)
		}
	}
	same(t, "Tick and Kind changed about", []journal.Entry{{Tick: 1, Kind: 2}}, []journal.Entry{{Tick: 2, Kind: 1}}, false)
	same(t, "A and B changed about", []journal.Entry{{A: 1, B: 2}}, []journal.Entry{{A: 2, B: 1}}, false)
	same(t, "Kind and A changed about", []journal.Entry{{Kind: 5, A: 2}}, []journal.Entry{{Kind: 2, A: 5}}, false)
}

func TestP2303SameOfAnotherOrder(t *testing.T) {
	l := row(0, 20)
	for i := range l {
		for j := range i {
			other := slices.Clone(l)
			other[i], other[j] = other[j], other[i]
			same(t, "two changed about", l, other, false)
		}
	}
	turned := slices.Clone(l)
	slices.Reverse(turned)
	same(t, "turned", l, turned, false)
	same(t, "one further", l[1:], l[:19], false)
	// Where the changed ones are the same, so are the lists.
	twice := append(row(1, 1), row(1, 1)...)
	same(t, "twice", twice, []journal.Entry{entry(1), entry(1)}, true)
}

func TestP2303SameOfWhatALogTells(t *testing.T) {
	a, b := newBoth(t, 30), newBoth(t, 31)
	a.add(row(0, 30)...)
	for n := range 30 {
		b.add(entry(n))
	}
	same(t, "all", a.l.All(), b.l.All(), true)
	same(t, "one list with itself", a.l.All()[2:9], row(2, 7), true)
	b.add(entry(30))
	a.add(entry(30))
	same(t, "one was lost", a.l.All(), b.l.All(), false)
}

func TestP2303SameOfLongLists(t *testing.T) {
	a, b := row(0, mostStory), row(0, mostStory)
	same(t, "long ones", a, b, true)
	for _, place := range []int{0, mostStory / 2, mostStory - 1} {
		b[place].B++
		same(t, "long ones, but for one", a, b, false)
		b[place].B--
	}
	same(t, "long ones", a, b, true)
}

func TestP2303WordOfEachKind(t *testing.T) {
	for kind, want := range words {
		for range 2 {
			if s := journal.Word(kind); s != want {
				t.Errorf("Word(%d): %q, not %q", kind, s, want)
			}
		}
	}
	named := map[int]string{
		journal.Accept: "accept", journal.Refuse: "refuse", journal.Ask: "ask", journal.Ran: "ran", journal.Ended: "ended",
		journal.Over: "over", journal.Missed: "missed", journal.Rose: "rose", journal.Dropped: "dropped", journal.Fell: "fell",
		journal.Served: "served", journal.Op: "op", journal.Fault: "fault", journal.Order: "order", journal.Mark: "mark",
	}
	for kind, want := range named {
		if s := journal.Word(kind); s != want {
			t.Errorf("Word of %s: %q", want, s)
		}
	}
}

func TestP2303WordOfNoKind(t *testing.T) {
	for kind := -70000; kind <= 70000; kind++ {
		if s := journal.Word(kind); s != "" && (kind < 0 || kind > 14) {
			t.Fatalf("Word(%d): %q", kind, s)
		}
	}
	for _, kind := range numbers {
		if s := journal.Word(kind); s != "" && (kind < 0 || kind > 14) {
			t.Errorf("Word(%d): %q", kind, s)
		}
	}
}

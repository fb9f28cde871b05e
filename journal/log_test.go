package journal_test

import (
	"math"
	"testing"

	"parclose/journal"
)

func TestP2302TheChaptersExample(t *testing.T) {
	l := journal.New(1)
	if n := l.Add(entry(1), entry(2)); n != 1 {
		t.Errorf("Add of two: %d", n)
	}
	if n := l.Lost(); n != 1 {
		t.Errorf("Lost: %d", n)
	}
	if a := l.All(); !alike(a, row(1, 1)) {
		t.Errorf("All: %v", a)
	}
}

func TestP2302TheKinds(t *testing.T) {
	kinds := []int{
		journal.Accept, journal.Refuse, journal.Ask, journal.Ran, journal.Ended, journal.Over, journal.Missed, journal.Rose,
		journal.Dropped, journal.Fell, journal.Served, journal.Op, journal.Fault, journal.Order, journal.Mark,
	}
	for want, kind := range kinds {
		if kind != want {
			t.Errorf("the kind %d is %d", want, kind)
		}
	}
}

// Under each room each number of entries comes behind each other one.
func TestP2302AddOfSoManyBehindSoMany(t *testing.T) {
	const most = 9
	for room := range most {
		for first := range most + 3 {
			for second := range most + 3 {
				b := newBoth(t, room)
				b.add(row(0, first)...)
				b.look()
				b.add(row(100, second)...)
				b.look()
				b.add()
				b.add(entry(200))
				b.look()
				b.stop("so many behind so many")
			}
		}
	}
}

func TestP2302AddOfNone(t *testing.T) {
	for _, room := range []int{0, 1, 5} {
		b := newBoth(t, room)
		for range 8 {
			if n := b.l.Add(); n != 0 {
				t.Errorf("Add of none: %d", n)
			}
			if n := b.l.Add([]journal.Entry{}...); n != 0 {
				t.Errorf("Add of an empty list: %d", n)
			}
			b.look()
			b.add(entry(3))
		}
		b.stop("none")
	}
}

func TestP2302BehindAFullLogAllAreLost(t *testing.T) {
	for _, room := range []int{0, 1, 2, 7, 64} {
		b := newBoth(t, room)
		b.add(row(0, room)...)
		b.lookFar()
		lost := 0
		for _, count := range []int{1, 0, 2, room, room + 1, 500, 1} {
			if n := b.l.Add(row(1000, count)...); n != 0 {
				t.Errorf("Add of %d to a full Log: %d", count, n)
			}
			lost += count
			if n := b.l.Lost(); n != lost {
				t.Errorf("Lost: %d, not %d", n, lost)
			}
			if a := b.l.All(); !alike(a, row(0, room)) {
				t.Errorf("All of a full Log, behind %d lost: %v", lost, a)
			}
		}
		b.stop("a full Log")
	}
}

func TestP2302ManyAreLost(t *testing.T) {
	b := newBoth(t, 3)
	for range 200 {
		b.add(row(0, 1000)...)
	}
	b.lookFar()
	if n := b.l.Lost(); n != 200000-3 {
		t.Errorf("Lost: %d", n)
	}
}

func TestP2302EntriesOfAnyFields(t *testing.T) {
	b := newBoth(t, 5*len(numbers)*len(numbers))
	for i, x := range numbers {
		for j, y := range numbers {
			b.add(journal.Entry{Tick: x, Kind: y, A: x, B: y}, journal.Entry{Tick: y, Kind: x, A: y, B: x})
			b.add(journal.Entry{Tick: y, Kind: i + j, A: x, B: x}, journal.Entry{Kind: x, B: y}, journal.Entry{Tick: x, Kind: y})
		}
	}
	b.lookFar()
	b.stop("any fields")
}

// A later entry may be of an earlier tick, and the same one may come again: a Log holds them as they came.
func TestP2302TheyStayAsTheyCame(t *testing.T) {
	b := newBoth(t, 10)
	b.add(entry(5), entry(5), entry(2), entry(9), journal.Entry{}, entry(5))
	b.look()
	b.add(journal.Entry{Tick: math.MaxInt, Kind: 3}, journal.Entry{Tick: math.MinInt, Kind: 3}, journal.Entry{})
	b.lookFar()
	b.stop("as they came")
}

func TestP2302Of(t *testing.T) {
	b := newBoth(t, 400)
	// Of none in an empty Log, whatever is asked.
	b.lookFar()
	for n := range 300 {
		e := entry(n)
		// Kinds come in no order, and a few that there are not come between.
		e.Kind = (n*n+3*n)%19 - 2
		if n%50 == 49 {
			e.Kind = numbers[n/50]
		}
		b.add(e)
	}
	b.lookFar()
	every := []int{0, 1, 2, 3, 4, 5, 6, 7, 8, 9, 10, 11, 12, 13, 14}
	for a := -3; a < 18; a++ {
		for c := -3; c < 18; c++ {
			b.of(a, c)
			b.of(c, a, c)
		}
		b.of(append([]int{a}, every...)...)
	}
	b.of(every...)
	b.of(append(every, every...)...)
	b.of(14, 13, 12, 11, 10, 9, 8, 7, 6, 5, 4, 3, 2, 1, 0)
	b.of(3, 3)
	b.of(3, 3, 3, 5, 5, 3)
	b.of([]int{}...)
	b.of(-1, 15, math.MaxInt, math.MinInt)
	b.of(math.MaxInt, 4, math.MinInt)
	b.stop("Of")
}

func TestP2302OfEachSetOfKinds(t *testing.T) {
	b := newBoth(t, 45)
	b.add(row(0, 50)...)
	for set := range 1 << 15 {
		var kinds []int
		for kind := range 15 {
			if set>>kind&1 == 1 {
				kinds = append(kinds, kind)
			}
		}
		b.of(kinds...)
	}
	b.stop("each set")
}

func TestP2302OfVeryMany(t *testing.T) {
	b := newBoth(t, mostStory)
	b.add(row(0, mostStory)...)
	kinds := make([]int, 60000)
	for i := range kinds {
		kinds[i] = 100 + i*i%1000
	}
	if l := b.l.Of(kinds...); len(l) != 0 {
		t.Errorf("Of many there are not: %d", len(l))
	}
	kinds[59999] = 14
	if l := b.l.Of(kinds...); len(l) != mostStory/15 {
		t.Errorf("Of many there are not, and 14: %d", len(l))
	}
}

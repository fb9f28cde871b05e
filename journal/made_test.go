package journal_test

import (
	"math"
	"testing"

	"parclose/journal"
)

// isNone holds a Log that is none to its answers, whatever it is handed.
func isNone(t *testing.T, what string, l *journal.Log) {
	t.Helper()
	for range 2 {
		for _, e := range [][]journal.Entry{nil, {}, {{}}, row(0, 1), row(3, 20), {{Tick: math.MinInt, Kind: math.MaxInt, A: -1, B: 1 << 62}}} {
			if n := l.Add(e...); n != 0 {
				t.Errorf("%s: Add of %d: %d", what, len(e), n)
			}
			if a := l.All(); len(a) != 0 {
				t.Errorf("%s: All: %v", what, a)
			}
			if n, lost := l.Len(), l.Lost(); n != 0 || lost != 0 {
				t.Errorf("%s: Len %d, Lost %d", what, n, lost)
			}
			for _, kinds := range [][]int{nil, {}, {0}, {3, 14}, numbers, {0, 1, 2, 3, 4, 5, 6, 7, 8, 9, 10, 11, 12, 13, 14}} {
				if a := l.Of(kinds...); len(a) != 0 {
					t.Errorf("%s: Of(%v): %v", what, kinds, a)
				}
			}
		}
	}
}

func TestP2301ANilLog(t *testing.T) {
	isNone(t, "a nil Log", nil)
}

func TestP2301LogsThatNewDidNotMake(t *testing.T) {
	var l journal.Log
	made := newBoth(t, 3)
	made.add(row(0, 5)...)
	*made.l = journal.Log{}
	for what, a := range map[string]*journal.Log{"the zero Log": &l, "a new Log": new(journal.Log), "a literal": {}, "one that was made zero": made.l} {
		isNone(t, what, a)
	}
}

func TestP2302NewOfSmallRooms(t *testing.T) {
	for room := range 40 {
		b := newBoth(t, room)
		b.lookFar()
		for n := range 45 {
			b.add(entry(n))
			b.look()
		}
		b.lookFar()
		b.stop("a small room")
	}
}

func TestP2302NewOfARoomBelow0(t *testing.T) {
	for _, room := range []int{0, -1, -2, -15, -mostStory, -1 << 31, -1 << 32, -1<<32 + 1, -1 << 62, math.MinInt, math.MinInt + 1} {
		b := newBoth(t, room)
		b.lookFar()
		b.add()
		b.add(entry(1))
		b.look()
		b.add(row(2, 9)...)
		b.lookFar()
		if n := b.l.Lost(); n != 10 {
			t.Errorf("Lost in a room of %d: %d", room, n)
		}
		b.stop("no room")
	}
}

func TestP2302NewOfRoomsAtMaxStory(t *testing.T) {
	for _, room := range []int{mostStory - 1, mostStory, mostStory + 1, mostStory + 2, 2 * mostStory, 1 << 31, 1 << 32, 1<<32 + 1, 1 << 62, math.MaxInt - 1, math.MaxInt} {
		b := newBoth(t, room)
		b.lookFar()
		// As many as there is room just below the most, then one by one past it, then many more.
		b.add(row(0, mostStory-2)...)
		b.look()
		for n := range 5 {
			b.add(entry(mostStory + n))
			b.counts()
			b.all()
		}
		b.add(row(7, 70000)...)
		b.look()
		want := min(room, mostStory)
		if n, lost := b.l.Len(), b.l.Lost(); n != want || lost != mostStory+3+70000-want {
			t.Errorf("a room of %d: Len %d, Lost %d", room, n, lost)
		}
		b.stop("a great room")
	}
}

func TestP2302MoreThanTheMostAtOnce(t *testing.T) {
	for _, room := range []int{mostStory - 1, mostStory, mostStory + 1, math.MaxInt} {
		for _, count := range []int{mostStory - 1, mostStory, mostStory + 1, 3 * mostStory} {
			b := newBoth(t, room)
			b.add(row(5, count)...)
			b.look()
			b.add(entry(4))
			b.look()
			b.stop("many at once")
		}
	}
}

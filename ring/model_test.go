// The tests are of a package of their own, as all that they hold a ring to is told by its calls.
package ring_test

import (
	"math"
	"slices"
	"strconv"
	"testing"

	"parclose/ring"
)

// mostRoom: the greatest room of a ring.
const mostRoom = 4096

// numbers: some about which an answer may turn.
var numbers = []int{
	math.MinInt, math.MinInt + 1, -1 << 62, -1 << 32, -4097, -4096, -4095, -16, -3, -2, -1, 0, 1, 2, 3, 4, 5, 7, 8, 9, 15, 16, 17,
	255, 256, 257, 4094, 4095, 4096, 4097, 4098, 8191, 8192, 1 << 16, 1 << 31, 1 << 32, 1<<32 + 1, 1 << 62, math.MaxInt - 1, math.MaxInt,
}

// both: a ring, and a plain list that it is held against. Each call is made of both.
type both[T comparable] struct {
	t    *testing.T
	r    *ring.Ring[T]
	room int
	list []T
}

func newBoth[T comparable](t *testing.T, room int) *both[T] {
	return &both[T]{t: t, r: ring.New[T](room), room: room}
}

// isNumber: is there an i-th?
func (b *both[T]) isNumber(i int) bool { return 0 <= i && i < len(b.list) }

func (b *both[T]) push(x T) {
	want := len(b.list) < b.room
	if ok := b.r.Push(x); ok != want {
		b.t.Errorf("Push of %v to %v, of room %d: %v", x, b.list, b.room, ok)
	}
	if want {
		b.list = append(b.list, x)
	}
}

func (b *both[T]) pop() {
	var want T
	some := len(b.list) > 0
	if some {
		want = b.list[0]
	}
	if x, ok := b.r.Pop(); x != want || ok != some {
		b.t.Errorf("Pop of %v: %v, %v", b.list, x, ok)
	}
	if some {
		b.list = b.list[1:]
	}
}

func (b *both[T]) at(i int) {
	var want T
	if b.isNumber(i) {
		want = b.list[i]
	}
	if x, ok := b.r.At(i); x != want || ok != b.isNumber(i) {
		b.t.Errorf("At(%d) of %v: %v, %v", i, b.list, x, ok)
	}
}

func (b *both[T]) set(i int, x T) {
	if ok := b.r.Set(i, x); ok != b.isNumber(i) {
		b.t.Errorf("Set(%d, %v) of %v: %v", i, x, b.list, ok)
	}
	if b.isNumber(i) {
		b.list[i] = x
	}
}

func (b *both[T]) clear() {
	b.r.Clear()
	b.list = nil
}

// place: Len and Room.
func (b *both[T]) place() {
	if n := b.r.Len(); n != len(b.list) {
		b.t.Errorf("Len of %v: %d", b.list, n)
	}
	if n := b.r.Room(); n != b.room {
		b.t.Errorf("Room of a ring of room %d: %d", b.room, n)
	}
}

// look: all that a ring tells of itself, twice, as that changes nothing.
func (b *both[T]) look() {
	for range 2 {
		b.place()
		if l := b.r.All(); !slices.Equal(l, b.list) {
			b.t.Errorf("All: %v, not %v", l, b.list)
		}
		for i := range len(b.list) + 2 {
			b.at(i - 1)
		}
	}
}

// lookFar: the same, and At of all the numbers about which it may turn.
func (b *both[T]) lookFar() {
	b.look()
	for _, i := range numbers {
		b.at(i)
	}
}

// stop ends a test that went wrong, so that it tells no more than what went wrong first.
func (b *both[T]) stop(what string) {
	b.t.Helper()
	if b.t.Failed() {
		b.t.Fatalf("%s: room %d", what, b.room)
	}
}

// of: a type that rings are made of, and how its n-th thing is made, none of which is the zero value, but where it has no others.
type of[T comparable] struct {
	make func(n int) T
}

// kind: what is tested of rings of every type.
type kind interface {
	none(t *testing.T)
	rooms(t *testing.T)
	shapes(t *testing.T)
	drawn(t *testing.T)
	order(t *testing.T)
	lists(t *testing.T)
	apart(t *testing.T)
}

// thing: a struct with texts and an array in it.
type thing struct {
	id   int
	name string
	ways [2]bool
}

// nothing: a struct without a field, of which all are alike.
type nothing struct{}

func number(n int) int       { return n + 1 }
func text(n int) string      { return "the " + strconv.Itoa(n) + "th" }
func truth(n int) bool       { return n%3 != 1 }
func little(n int) uint8     { return uint8(n%255 + 1) }
func row(n int) [3]int       { return [3]int{n, -n, 1} }
func pointer(n int) *thing   { return &thing{id: n} }
func empty(n int) nothing    { return nothing{} }
func channel(n int) chan int { return make(chan int, n%4) }

func whole(n int) thing {
	return thing{n, "thing " + strconv.Itoa(n), [2]bool{n%2 == 0, true}}
}

func inner(n int) *ring.Ring[int] {
	r := ring.New[int](3)
	r.Push(n)
	return r
}

// mixed: of an interface's type, things of several ones.
func mixed(n int) any {
	switch n % 3 {
	case 0:
		return n
	case 1:
		return strconv.Itoa(n)
	}
	return thing{id: n}
}

// every runs a test for rings of each of several types.
func every(t *testing.T, test func(k kind, t *testing.T)) {
	kinds := []struct {
		name string
		kind kind
	}{
		{"ints", of[int]{number}}, {"texts", of[string]{text}}, {"truth values", of[bool]{truth}}, {"structs", of[thing]{whole}},
		{"pointers", of[*thing]{pointer}}, {"bytes", of[uint8]{little}}, {"arrays", of[[3]int]{row}}, {"empty structs", of[nothing]{empty}},
		{"channels", of[chan int]{channel}}, {"rings", of[*ring.Ring[int]]{inner}}, {"interfaces", of[any]{mixed}},
	}
	for _, k := range kinds {
		t.Run(k.name, func(t *testing.T) { test(k.kind, t) })
	}
}

package conf

import (
	"math"
	"reflect"
	"testing"
	"unsafe"
)

// sample: a system in which each field is another number than its neighbours, made anew each time.
func sample() Config {
	return Config{
		Frame: 100, Margin: 3,
		Windows: []Window{{0, 10, 1}, {20, 15, 0}, {40, 5, 2}},
		Parts: []Part{
			{
				Tasks:   []Task{{true, 20, 15, 8, 3, 6}, {false, 30, 25, 25, 4, 4}},
				Servers: []Server{{true, 2, 10}, {false, 3, 11}},
				Donees:  []int{2, 1},
				Acts:    [3]uint8{0, 1, 2},
			},
			{
				Tasks:   []Task{{true, 21, 16, 9, 1, 7}},
				Servers: []Server{{false, 1, 12}},
				Donees:  []int{0},
				Acts:    [3]uint8{2, 2, 0},
			},
			{},
		},
		Chans: []Channel{{true, 0, 1, 8}, {false, 1, 0, 9}},
	}
}

// leaves goes through all that is in v, and calls each of the functions at its kind of place.
func leaves(v reflect.Value, path string, leaf, list func(path string, v reflect.Value)) {
	switch v.Kind() {
	case reflect.Struct:
		for i := range v.NumField() {
			leaves(v.Field(i), path+"."+v.Type().Field(i).Name, leaf, list)
		}
	case reflect.Slice, reflect.Array:
		if v.Kind() == reflect.Slice {
			list(path, v)
		}
		for i := range v.Len() {
			leaves(v.Index(i), path+"[]", leaf, list)
		}
	default:
		leaf(path, v)
	}
}

// change: another value, by so much, of a number, or the other one of a bool.
func change(v reflect.Value, by int) {
	switch v.Kind() {
	case reflect.Bool:
		v.SetBool(!v.Bool())
	case reflect.Uint8:
		v.SetUint(v.Uint() ^ 128)
	default:
		v.SetInt(v.Int() + int64(by))
	}
}

func nothing(string, reflect.Value) {}

// places: how many leaves, or lists, a sample has.
func places() (values, lists int) {
	c := sample()
	leaves(reflect.ValueOf(&c).Elem(), "", func(string, reflect.Value) { values++ }, func(string, reflect.Value) { lists++ })
	return values, lists
}

// sampleWith: a sample, in which the value in a place, or the list in a place, is changed.
func sampleWith(value, list int, do func(v reflect.Value)) (Config, string) {
	c := sample()
	where := ""
	at := func(place *int) func(string, reflect.Value) {
		return func(path string, v reflect.Value) {
			if *place == 0 {
				where = path
				do(v)
			}
			*place--
		}
	}
	leaves(reflect.ValueOf(&c).Elem(), "", at(&value), at(&list))
	return c, where
}

func same(t *testing.T, what string, a, b Config, want bool) {
	t.Helper()
	for range 2 {
		if got := Same(a, b); got != want {
			t.Errorf("%s: %v", what, got)
		}
		if got := Same(b, a); got != want {
			t.Errorf("%s, the other way round: %v", what, got)
		}
	}
}

func TestP304SameOfTheSame(t *testing.T) {
	same(t, "none", Config{}, Config{}, true)
	same(t, "two samples", sample(), sample(), true)
	c := sample()
	same(t, "itself", c, c, true)
	same(t, "one and none", sample(), Config{}, false)
}

func TestP304SameOfOneThatDiffersInAField(t *testing.T) {
	values, _ := places()
	if values != 58 {
		t.Fatalf("%d values", values)
	}
	for i := range values {
		for _, by := range []int{1, -1, 1 << 8, 1 << 32, math.MinInt} {
			c, where := sampleWith(i, -1, func(v reflect.Value) { change(v, by) })
			same(t, where, sample(), c, false)
		}
	}
}

func TestP304SameOfOneThatDiffersInALength(t *testing.T) {
	_, lists := places()
	for i := range lists {
		c, where := sampleWith(-1, i, func(v reflect.Value) {
			v.Set(reflect.Append(v, reflect.Zero(v.Type().Elem())))
		})
		same(t, where+", one more", sample(), c, false)
		c, where = sampleWith(-1, i, func(v reflect.Value) {
			if v.Len() > 0 {
				v.Set(v.Slice(0, v.Len()-1))
			} else {
				v.Set(reflect.MakeSlice(v.Type(), 1, 1))
			}
		})
		same(t, where+", one less", sample(), c, false)
		d, _ := sampleWith(-1, i, func(v reflect.Value) { v.SetZero() })
		e, where := sampleWith(-1, i, func(v reflect.Value) { v.Set(reflect.MakeSlice(v.Type(), 0, 4)) })
		same(t, where+", empty and nil", d, e, true)
	}
}

func TestP304SameGoesByTheOrder(t *testing.T) {
	_, lists := places()
	for i := range lists {
		turned := false
		c, where := sampleWith(-1, i, func(v reflect.Value) {
			if v.Len() > 1 {
				reflect.Swapper(v.Interface())(0, 1)
				turned = true
			}
		})
		same(t, where+", turned", sample(), c, !turned)
	}
}

func TestP304SameLooksNotAtTheRoomBehind(t *testing.T) {
	_, lists := places()
	for i := range lists {
		c, where := sampleWith(-1, i, func(v reflect.Value) {
			l := reflect.Append(v, reflect.Zero(v.Type().Elem()))
			v.Set(l.Slice(0, v.Len()))
		})
		same(t, where, sample(), c, true)
	}
}

func TestP304CloneIsTheSame(t *testing.T) {
	for _, c := range []Config{{}, sample(), {Parts: make([]Part, 300)}, {Frame: math.MinInt, Margin: math.MaxInt}} {
		d := Clone(c)
		same(t, "a clone", c, d, true)
		if !reflect.DeepEqual(c, d) {
			t.Errorf("the clone of %+v is %+v", c, d)
		}
	}
	values, lists := places()
	for i := range values {
		c, where := sampleWith(i, -1, func(v reflect.Value) { change(v, -1) })
		if d := Clone(c); !reflect.DeepEqual(c, d) {
			t.Errorf("%s: the clone of %+v is %+v", where, c, d)
		}
	}
	for i := range lists {
		c, where := sampleWith(-1, i, func(v reflect.Value) { v.Set(reflect.MakeSlice(v.Type(), 0, 4)) })
		same(t, where+", the clone", c, Clone(c), true)
	}
}

// room: where a list lies, with what is behind it.
type room struct {
	path     string
	from, to uintptr
}

func (a room) apart(b room) bool { return a.to <= b.from || b.to <= a.from }

func roomsOf(c *Config) []room {
	var rooms []room
	leaves(reflect.ValueOf(c).Elem(), "", nothing, func(path string, v reflect.Value) {
		if v.Cap() > 0 {
			rooms = append(rooms, room{path, v.Pointer(), v.Pointer() + uintptr(v.Cap())*v.Type().Elem().Size()})
		}
	})
	return rooms
}

// withRoom: a sample with room behind each list; the donees of all partitions lie in one array.
func withRoom() Config {
	c := sample()
	leaves(reflect.ValueOf(&c).Elem(), "", nothing, func(_ string, v reflect.Value) {
		l := v
		for range 3 {
			l = reflect.Append(l, reflect.Zero(v.Type().Elem()))
		}
		v.Set(l.Slice(0, v.Len()))
	})
	ints := []int{2, 1, 0, 7, 7}
	c.Parts[0].Donees = ints[:2]
	c.Parts[1].Donees = ints[2:3]
	c.Parts[2].Donees = ints[3:3]
	return c
}

func TestP301CloneSharesNoRoom(t *testing.T) {
	for _, c := range []Config{sample(), withRoom()} {
		d, e := Clone(c), Clone(c)
		clone := roomsOf(&d)
		if len(clone) != 9 {
			t.Fatalf("%d lists in the clone", len(clone))
		}
		for i, a := range clone {
			others := append(roomsOf(&c), roomsOf(&e)...)
			others = append(others, clone[i+1:]...)
			for _, b := range others {
				if !a.apart(b) {
					t.Errorf("%s of the clone lies where %s of another one does, or of it", a.path, b.path)
				}
			}
		}
	}
}

func TestP301EmptyListsOfACloneLieElsewhere(t *testing.T) {
	room := make([]int, 4)
	c := Config{Parts: []Part{{Donees: room[:0]}}}
	d := Clone(c)
	if unsafe.SliceData(d.Parts[0].Donees) == unsafe.SliceData(room) {
		t.Error("an empty list lies in what was handed in")
	}
}

func TestP301ChangesOfOneAreNotSeenInTheOther(t *testing.T) {
	values, lists := places()
	for i := range values {
		c := sample()
		d := Clone(c)
		n := i
		leaves(reflect.ValueOf(&d).Elem(), "", func(path string, v reflect.Value) {
			if n == 0 {
				change(v, 1)
			}
			n--
		}, nothing)
		if !reflect.DeepEqual(c, sample()) || reflect.DeepEqual(d, sample()) {
			t.Errorf("place %d: a change of the clone", i)
		}
		c = sample()
		d = Clone(c)
		n = i
		leaves(reflect.ValueOf(&c).Elem(), "", func(path string, v reflect.Value) {
			if n == 0 {
				change(v, 1)
			}
			n--
		}, nothing)
		if !reflect.DeepEqual(d, sample()) || reflect.DeepEqual(c, sample()) {
			t.Errorf("place %d: a change of what it was made of", i)
		}
	}
	for i := range lists {
		c := withRoom()
		d := Clone(c)
		n := i
		leaves(reflect.ValueOf(&d).Elem(), "", nothing, func(path string, v reflect.Value) {
			if n == 0 {
				reflect.Append(v, reflect.Zero(v.Type().Elem()))
				v.Set(reflect.Append(v, reflect.Zero(v.Type().Elem())))
			}
			n--
		})
		same(t, "behind an append to the clone", c, sample(), true)
		same(t, "an append to the clone", c, d, false)
	}
}

func TestP301SameAndCloneLeaveAllAlone(t *testing.T) {
	c, d := withRoom(), withRoom()
	all := func(c Config) Config {
		leaves(reflect.ValueOf(&c).Elem(), "", nothing, func(_ string, v reflect.Value) {
			v.Set(v.Slice(0, v.Cap()))
		})
		return c
	}
	Same(c, d)
	Clone(c)
	Same(c, sample())
	c.Names(0, c.Parts[0].Donees...)
	if !reflect.DeepEqual(all(c), all(withRoom())) || !reflect.DeepEqual(all(d), all(withRoom())) {
		t.Error("what was handed in, or the room behind it, is another one now")
	}
}

func TestP304Has(t *testing.T) {
	for _, n := range []int{0, 1, 2, 6, 7, 300} {
		c := Config{Frame: 10, Parts: make([]Part, n, n+5)}
		for p := range n {
			if !c.Has(p) {
				t.Errorf("%d of %d: no", p, n)
			}
		}
		for _, p := range []int{math.MinInt, math.MinInt + 1, -1 << 32, -n - 1, -2, -1, n, n + 1, n + 5, 1 << 32, 1 << 62, math.MaxInt} {
			if c.Has(p) {
				t.Errorf("%d of %d: yes", p, n)
			}
		}
	}
}

func names(t *testing.T, parts int, want bool, p int, l ...int) {
	t.Helper()
	c := Config{Parts: make([]Part, parts, parts+4)}
	for range 2 {
		if got := c.Names(p, l...); got != want {
			t.Errorf("of %d: Names(%d, %v): %v", parts, p, l, got)
		}
	}
}

func TestP304Names(t *testing.T) {
	rows := []struct {
		parts int
		want  bool
		p     int
		l     []int
	}{
		{0, false, 0, nil},
		{0, false, -1, nil},
		{1, true, 0, nil},
		{1, true, 0, []int{}},
		{1, false, 0, []int{0}},
		{1, false, 0, []int{1}},
		{1, false, 1, nil},
		{1, false, 1, []int{0}},
		{1, false, -1, nil},
		{3, true, 0, nil},
		{3, true, 1, nil},
		{3, true, 2, nil},
		{3, false, 3, nil},
		{3, false, 3, []int{0, 1}},
		{3, false, -1, []int{0, 1}},
		{3, false, math.MinInt, []int{1}},
		{3, false, math.MaxInt, []int{1}},
		{3, true, 0, []int{1}},
		{3, true, 0, []int{2, 1}},
		{3, true, 0, []int{1, 2}},
		{3, true, 1, []int{2, 0}},
		{3, true, 2, []int{0, 1}},
		{3, false, 0, []int{0}},
		{3, false, 0, []int{1, 0}},
		{3, false, 1, []int{0, 1}},
		{3, false, 0, []int{1, 1}},
		{3, false, 0, []int{1, 2, 1}},
		{3, false, 0, []int{1, 2, 2}},
		{3, false, 0, []int{3}},
		{3, false, 0, []int{1, 3}},
		{3, false, 0, []int{-1}},
		{3, false, 0, []int{1, -1}},
		{3, false, 0, []int{-1, 1}},
		{3, false, 0, []int{math.MinInt}},
		{3, false, 0, []int{math.MaxInt}},
		{6, true, 3, []int{5, 0, 4, 1, 2}},
		{6, false, 3, []int{5, 0, 4, 1, 5}},
		{6, false, 3, []int{5, 0, 4, 1, 2, 3}},
		{6, false, 3, []int{5, 0, 4, 1, 2, 6}},
		{6, false, 3, []int{5, 0, 4, 1, 2, 0}},
		{9, true, 8, []int{7, 6}},
	}
	for _, row := range rows {
		names(t, row.parts, row.want, row.p, row.l...)
	}
	names(t, 3, true, 0)
}

func TestP304NamesOfAllShortLists(t *testing.T) {
	for parts := range 4 {
		for p := -1; p <= parts; p++ {
			for i := range 5 * 5 * 5 * 5 {
				l := []int{i%5 - 1, i/5%5 - 1, i/25%5 - 1}[:i/125%4]
				met := map[int]int{p: 1}
				want := p >= 0 && p < parts
				for _, q := range l {
					met[q]++
					want = want && q >= 0 && q < parts && met[q] == 1
				}
				names(t, parts, want, p, l...)
			}
		}
	}
}

func TestP304NamesOfALongList(t *testing.T) {
	long := times(1<<20, 1)
	names(t, 3, false, 0, long...)
	var all []int
	for q := 1; q < 1000; q++ {
		all = append(all, q)
	}
	names(t, 1000, true, 0, all...)
	names(t, 1001, true, 0, all...)
	names(t, 1001, true, 1000, all...)
	names(t, 999, false, 0, all...)
	names(t, 1000, false, 1, all...)
}

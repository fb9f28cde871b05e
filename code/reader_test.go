package code

import (
	"bytes"
	"math"
	"slices"
	"testing"

	"parclose/api"
)

// stands holds what a Reader tells of itself, asked twice, as asking changes nothing, against what it is to be.
func stands(t *testing.T, what string, r *Reader, left int, err api.Errno) {
	t.Helper()
	for range 2 {
		if n := r.Left(); n != left {
			t.Errorf("%s: %d left, not %d", what, n, left)
		}
		if e := r.Err(); e != err {
			t.Errorf("%s: error %d, not %d", what, e, err)
		}
	}
}

// gets holds a number that is read against what it is to be.
func gets(t *testing.T, what string, r *Reader, size, want int) {
	t.Helper()
	if n := r.Get(size); n != want {
		t.Errorf("%s: Get(%d): %d, not %d", what, size, n, want)
	}
}

// getsSome does so for several.
func getsSome(t *testing.T, what string, r *Reader, size, n int, want ...int) {
	t.Helper()
	if l := r.Some(size, n); !slices.Equal(l, want) {
		t.Errorf("%s: Some(%d, %d): %v, not %v", what, size, n, l, want)
	}
}

// spent holds a Reader of which nothing is read any more against all that may be asked of it.
func spent(t *testing.T, what string, r *Reader, err api.Errno) {
	t.Helper()
	stands(t, what, r, 0, err)
	for _, size := range append([]int{1, 2, 3, 4, 5, 6, 7}, noSizes...) {
		gets(t, what, r, size, 0)
		for _, n := range []int{math.MinInt, -1, 0, 1, 2, math.MaxInt} {
			getsSome(t, what, r, size, n)
		}
		stands(t, what+", asked for more", r, 0, err)
	}
}

// upTo: the bytes 1, 2, and so on.
func upTo(n int) []byte {
	var b []byte
	for i := range n {
		b = append(b, byte(i+1))
	}
	return b
}

func TestP201NilReader(t *testing.T) {
	spent(t, "a nil Reader", nil, api.ErrArg)
}

func TestP201ReadersThatReadDidNotMake(t *testing.T) {
	var r Reader
	spent(t, "the zero Reader", &r, api.ErrArg)
	spent(t, "a new Reader", new(Reader), api.ErrArg)
	s := Read(upTo(3))
	s.Get(1)
	*s = Reader{}
	spent(t, "one that was made zero", s, api.ErrArg)
}

func TestP201ReadOfNoBytes(t *testing.T) {
	for _, b := range [][]byte{nil, {}} {
		r := Read(b)
		stands(t, "no bytes", r, 0, api.OK)
		getsSome(t, "no bytes", r, 1, 0)
		stands(t, "no bytes, none asked", r, 0, api.OK)
		gets(t, "no bytes", r, 1, 0)
		spent(t, "no bytes, one asked", r, api.ErrSize)
	}
}

func TestP201ReadersAreApart(t *testing.T) {
	b := upTo(4)
	a, c := Read(b), Read(b)
	gets(t, "the one", a, 2, 258)
	d := *a
	gets(t, "the one", a, 7, 0)
	spent(t, "the one", a, api.ErrSize)
	stands(t, "the other one", c, 4, api.OK)
	gets(t, "the other one", c, 1, 1)
	gets(t, "a copy", &d, 1, 3)
	stands(t, "a copy", &d, 1, api.OK)
}

func TestP201ReadLeavesItsBytesAlone(t *testing.T) {
	b := upTo(5)
	r := Read(b[:4])
	b[0], b[3], b[4] = 50, 51, 52
	getsSome(t, "behind a change of the bytes", r, 1, 4, 1, 2, 3, 4)
	gets(t, "past the end of the bytes", r, 1, 0)
	if !bytes.Equal(b, []byte{50, 2, 3, 51, 52}) {
		t.Errorf("the bytes are %v now", b)
	}
}

func TestP203GetOfEachSize(t *testing.T) {
	rows := []struct{ size, want, left int }{
		{1, 0x01, 9},
		{2, 0x0102, 8},
		{3, 0x010203, 7},
		{4, 0x01020304, 6},
		{5, 0x0102030405, 5},
		{6, 0x010203040506, 4},
		{7, 0x01020304050607, 3},
	}
	for _, row := range rows {
		r := Read(upTo(10))
		gets(t, "ten bytes", r, row.size, row.want)
		stands(t, "ten bytes", r, row.left, api.OK)
		gets(t, "ten bytes, later", r, 1, row.size+1)
	}
}

func TestP203GetOfGreatNumbers(t *testing.T) {
	for size := 1; size <= 7; size++ {
		r := Read(bytes.Repeat([]byte{255}, size))
		gets(t, "all bits", r, size, past(size)-1)
		stands(t, "all bits", r, 0, api.OK)
	}
}

func TestP203GetOfOneBehindTheOther(t *testing.T) {
	r := Read([]byte{1, 2, 0, 1, 0, 0, 9, 255})
	gets(t, "first", r, 2, 258)
	stands(t, "first", r, 6, api.OK)
	gets(t, "second", r, 2, 1)
	stands(t, "second", r, 4, api.OK)
	gets(t, "third", r, 3, 9)
	stands(t, "third", r, 1, api.OK)
	gets(t, "fourth", r, 1, 255)
	stands(t, "fourth", r, 0, api.OK)
	gets(t, "fifth", r, 1, 0)
	spent(t, "fifth", r, api.ErrSize)
}

func TestP203GetOfASizeThatIsNone(t *testing.T) {
	for _, size := range noSizes {
		r := Read(upTo(300))
		gets(t, "no size", r, size, 0)
		spent(t, "no size", r, api.ErrArg)
		r = Read(upTo(300))
		gets(t, "a size", r, 2, 258)
		gets(t, "no size, later", r, size, 0)
		spent(t, "no size, later", r, api.ErrArg)
		// Bytes are missing, too: what the chapter names first is told.
		r = Read(nil)
		gets(t, "no size, no bytes", r, size, 0)
		spent(t, "no size, no bytes", r, api.ErrArg)
	}
}

func TestP203GetWithFewerBytesLeft(t *testing.T) {
	for size := 1; size <= 7; size++ {
		for there := range size {
			r := Read(upTo(there))
			gets(t, "fewer bytes", r, size, 0)
			spent(t, "fewer bytes", r, api.ErrSize)
			r = Read(upTo(size + there))
			if n := r.Get(size); n == 0 {
				t.Error("what is there is not read")
			}
			stands(t, "what is there", r, there, api.OK)
			gets(t, "fewer bytes, later", r, size, 0)
			spent(t, "fewer bytes, later", r, api.ErrSize)
		}
	}
}

func TestP203TheFirstErrorStays(t *testing.T) {
	r := Read(upTo(2))
	r.Get(3)
	r.Get(0)
	stands(t, "ErrSize first", r, 0, api.ErrSize)
	r = Read(upTo(2))
	r.Get(0)
	r.Get(3)
	stands(t, "ErrArg first", r, 0, api.ErrArg)
	r = Read(upTo(2))
	r.Some(1, 3)
	r.Some(8, 1)
	stands(t, "ErrSize of some first", r, 0, api.ErrSize)
	r = Read(upTo(2))
	r.Some(8, 1)
	r.Some(1, 3)
	stands(t, "ErrArg of some first", r, 0, api.ErrArg)
}

func TestP203SomeOfNone(t *testing.T) {
	for _, n := range []int{math.MinInt, -1 << 61, -7, -1, 0} {
		for size := 1; size <= 7; size++ {
			r := Read(upTo(3))
			getsSome(t, "none", r, size, n)
			stands(t, "none", r, 3, api.OK)
			gets(t, "none, then one", r, 1, 1)
		}
		// None are read, so none is of a size that is none.
		for _, size := range noSizes {
			r := Read(upTo(3))
			getsSome(t, "none of no size", r, size, n)
			stands(t, "none of no size", r, 3, api.OK)
		}
	}
}

func TestP203SomeOfOneAndMore(t *testing.T) {
	r := Read(upTo(10))
	getsSome(t, "one", r, 2, 1, 258)
	stands(t, "one", r, 8, api.OK)
	getsSome(t, "three", r, 1, 3, 3, 4, 5)
	stands(t, "three", r, 5, api.OK)
	getsSome(t, "two", r, 2, 2, 6*256+7, 8*256+9)
	stands(t, "two", r, 1, api.OK)
	getsSome(t, "the last one", r, 1, 1, 10)
	stands(t, "the last one", r, 0, api.OK)
	getsSome(t, "none at the end", r, 1, 0)
	stands(t, "none at the end", r, 0, api.OK)
	getsSome(t, "one past the end", r, 1, 1)
	spent(t, "one past the end", r, api.ErrSize)
}

func TestP203SomeWhereBytesRunOut(t *testing.T) {
	for size := 1; size <= 7; size++ {
		for there := range 4 * size {
			n := there/size + 1
			for _, n := range []int{n, n + 1, 100, 1 << 61, 1 << 62, 1<<62 + 1, math.MaxInt / 7, math.MaxInt/7 + 1, math.MaxInt - 1, math.MaxInt} {
				r := Read(upTo(there))
				getsSome(t, "too few bytes", r, size, n)
				spent(t, "too few bytes", r, api.ErrSize)
			}
		}
	}
}

func TestP203SomeOfASizeThatIsNone(t *testing.T) {
	for _, size := range noSizes {
		for _, n := range []int{1, 2, 100, math.MaxInt} {
			for _, there := range []int{0, 1, 300} {
				r := Read(upTo(there))
				getsSome(t, "no size", r, size, n)
				spent(t, "no size", r, api.ErrArg)
			}
		}
	}
}

func TestP203SomeSharesNothing(t *testing.T) {
	r := Read(upTo(6))
	a := r.Some(1, 2)
	b := r.Some(1, 2)
	a[0] = 100
	_ = append(a, 101)
	_ = append(b, 102)
	if !slices.Equal(b, []int{3, 4}) {
		t.Errorf("the other answer is %v now", b)
	}
	getsSome(t, "behind a change of an answer", r, 1, 2, 5, 6)
	if !slices.Equal(a, []int{100, 2}) {
		t.Errorf("an answer is %v behind Some", a)
	}
}

// dice: numbers without a pattern, but the same ones each time.
type dice struct{ n uint64 }

func (d *dice) below(n int) int {
	d.n = d.n*6364136223846793005 + 1442695040888963407
	return int(d.n>>11) % n
}

func TestP204EachSizeThereAndBack(t *testing.T) {
	for size := 1; size <= 7; size++ {
		var w Writer
		w.Put(size, numbersOf(size)...)
		r := Read(w.Bytes())
		getsSome(t, "all at once", r, size, len(numbersOf(size)), numbersOf(size)...)
		stands(t, "all at once", r, 0, api.OK)
		r = Read(w.Bytes())
		for _, n := range numbersOf(size) {
			gets(t, "one by one", r, size, n)
		}
		stands(t, "one by one", r, 0, api.OK)
	}
}

func TestP204ManyThereAndBack(t *testing.T) {
	type group struct {
		size int
		l    []int
	}
	d := &dice{}
	for range 300 {
		var w Writer
		var groups []group
		length := 0
		for range d.below(12) {
			g := group{size: 1 + d.below(7)}
			for range d.below(6) {
				g.l = append(g.l, d.below(past(1+d.below(g.size))))
			}
			w.Put(g.size, g.l...)
			length += g.size * len(g.l)
			groups = append(groups, g)
		}
		if n := len(w.Bytes()); n != length || w.Err() != api.OK {
			t.Fatalf("%d bytes, not %d; error %d", n, length, w.Err())
		}
		r := Read(w.Bytes())
		for _, g := range groups {
			stands(t, "what is left", r, length, api.OK)
			if d.below(2) == 0 {
				getsSome(t, "a group", r, g.size, len(g.l), g.l...)
			} else {
				for _, n := range g.l {
					gets(t, "a group's number", r, g.size, n)
				}
			}
			length -= g.size * len(g.l)
		}
		stands(t, "nothing is left", r, 0, api.OK)
	}
}

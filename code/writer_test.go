package code

import (
	"bytes"
	"math"
	"math/big"
	"slices"
	"testing"

	"parclose/api"
)

// noSizes: what is none of the sizes; eight times some of them wraps round to a size's bits, or to 0.
var noSizes = []int{
	math.MinInt, math.MinInt + 1, -1 << 61, -8, -7, -2, -1, 0,
	8, 9, 16, 63, 64, 255, 256, 1 << 32, 1 << 60, 1 << 61, 1<<61 + 1, 1<<61 + 7, math.MaxInt - 1, math.MaxInt,
}

// past: 256 to the size, the first number that is none of it.
func past(size int) int {
	n := 1
	for range size {
		n *= 256
	}
	return n
}

// spelt: the bytes of a number, worked out without the program.
func spelt(size, n int) []byte {
	return big.NewInt(int64(n)).FillBytes(make([]byte, size))
}

// numbersOf: numbers of a size at its edges, and those whose bytes are all others.
func numbersOf(size int) []int {
	return []int{0, 1, 127, 128, 254, 255, past(size) - 1, past(size) - 2, past(size) / 2, past(size)/2 - 1, past(size-1) - 1, past(size - 1), 0x01020304050607 % past(size), 0x7f80f0fe817263 % past(size)}
}

// notOf: numbers that are none of a size.
func notOf(size int) []int {
	return []int{-1, -2, -255, -256, -past(size), 1 - past(size), math.MinInt, math.MinInt + 1, past(size), past(size) + 1, 2 * past(size), past(7), 1 << 62, math.MaxInt}
}

// wrote holds what a Writer tells, asked twice, as asking changes nothing, against what it is to be.
func wrote(t *testing.T, what string, w *Writer, err api.Errno, want ...byte) {
	t.Helper()
	for range 2 {
		if b := w.Bytes(); !bytes.Equal(b, want) {
			t.Errorf("%s: bytes %v, not %v", what, b, want)
		}
		if e := w.Err(); e != err {
			t.Errorf("%s: error %d, not %d", what, e, err)
		}
	}
}

func TestP201TheZeroWriter(t *testing.T) {
	var w Writer
	wrote(t, "the zero Writer", &w, api.OK)
	wrote(t, "a new Writer", new(Writer), api.OK)
	w.Put(1, 5)
	wrote(t, "the zero Writer behind Put", &w, api.OK, 5)
}

func TestP201NilWriter(t *testing.T) {
	var w *Writer
	wrote(t, "a nil Writer", w, api.ErrArg)
	w.Put(1)
	w.Put(1, 5)
	w.Put(1, -1)
	w.Put(0, 5)
	wrote(t, "a nil Writer behind Put", w, api.ErrArg)
}

func TestP201WritersAreApart(t *testing.T) {
	var a, b Writer
	a.Put(1, 1)
	b.Put(1, 2, -1)
	wrote(t, "the one", &a, api.OK, 1)
	wrote(t, "the other one", &b, api.ErrRange, 2)
}

func TestP201CopiesOfAWriterGoOnApart(t *testing.T) {
	for ahead := range 20 {
		var a Writer
		var want []byte
		for n := range ahead {
			a.Put(1, n)
			want = append(want, byte(n))
		}
		b, c := a, a
		a.Put(1, 101)
		b.Put(1, 102)
		c.Put(1, -1)
		a.Put(1, 103)
		b.Put(1, 104)
		wrote(t, "what was copied", &a, api.OK, append(slices.Clone(want), 101, 103)...)
		wrote(t, "a copy", &b, api.OK, append(slices.Clone(want), 102, 104)...)
		wrote(t, "a copy that failed", &c, api.ErrRange, want...)
	}
}

func TestP202TheExample(t *testing.T) {
	var w Writer
	w.Put(2, 258, 1)
	wrote(t, "258 and 1 in two each", &w, api.OK, 1, 2, 0, 1)
}

func TestP202TheHighestByteIsFirst(t *testing.T) {
	rows := []struct {
		size, n int
		want    []byte
	}{
		{1, 0x07, []byte{7}},
		{2, 0x0607, []byte{6, 7}},
		{3, 0x050607, []byte{5, 6, 7}},
		{4, 0x04050607, []byte{4, 5, 6, 7}},
		{5, 0x0304050607, []byte{3, 4, 5, 6, 7}},
		{6, 0x020304050607, []byte{2, 3, 4, 5, 6, 7}},
		{7, 0x01020304050607, []byte{1, 2, 3, 4, 5, 6, 7}},
		{7, 7, []byte{0, 0, 0, 0, 0, 0, 7}},
		{7, 1<<56 - 1, []byte{255, 255, 255, 255, 255, 255, 255}},
		{3, 0xff00ff, []byte{255, 0, 255}},
	}
	for _, r := range rows {
		var w Writer
		w.Put(r.size, r.n)
		wrote(t, "one number", &w, api.OK, r.want...)
	}
}

func TestP202EachSizeOfNoneOneAndSeveral(t *testing.T) {
	for size := 1; size <= 7; size++ {
		var none, all Writer
		none.Put(size)
		none.Put(size, []int{}...)
		wrote(t, "none", &none, api.OK)
		var want []byte
		for _, n := range numbersOf(size) {
			var one Writer
			one.Put(size, n)
			wrote(t, "one", &one, api.OK, spelt(size, n)...)
			want = append(want, spelt(size, n)...)
		}
		all.Put(size, numbersOf(size)...)
		wrote(t, "several", &all, api.OK, want...)
		all.Put(size)
		wrote(t, "several, then none", &all, api.OK, want...)
	}
}

func TestP202SizesOneBehindTheOther(t *testing.T) {
	var w Writer
	w.Put(4, 0x5041524b)
	w.Put(2, 10, 300)
	w.Put(1)
	w.Put(7, 1)
	w.Put(1, 9)
	w.Put(3, 65536)
	wrote(t, "several sizes", &w, api.OK, 80, 65, 82, 75, 0, 10, 1, 44, 0, 0, 0, 0, 0, 0, 1, 9, 1, 0, 0)
}

// stays holds a Writer that failed against all that may be put behind that.
func stays(t *testing.T, what string, w *Writer, want ...byte) {
	t.Helper()
	wrote(t, what, w, api.ErrRange, want...)
	for size := 1; size <= 7; size++ {
		w.Put(size)
		w.Put(size, 1)
		w.Put(size, 0, 1, 2)
	}
	wrote(t, what+", then right ones", w, api.ErrRange, want...)
	w.Put(1, -1)
	w.Put(0, 1)
	w.Put(1, 1)
	wrote(t, what+", then wrong ones", w, api.ErrRange, want...)
}

func TestP202ASizeThatIsNone(t *testing.T) {
	for _, size := range noSizes {
		var one, several, none, behind Writer
		one.Put(size, 1)
		stays(t, "one number", &one)
		several.Put(size, 0, 1, 2)
		stays(t, "several numbers", &several)
		none.Put(size)
		stays(t, "no number", &none)
		behind.Put(2, 258)
		behind.Put(1, 9)
		behind.Put(size, 1)
		stays(t, "behind others", &behind, 1, 2, 9)
	}
}

func TestP202ANumberThatIsNoneOfItsSize(t *testing.T) {
	for size := 1; size <= 7; size++ {
		for _, n := range notOf(size) {
			var alone, ahead, between, behind, later Writer
			alone.Put(size, n)
			stays(t, "alone", &alone)
			ahead.Put(size, n, 1, 2)
			stays(t, "ahead of others", &ahead)
			between.Put(size, 1, n, 2)
			stays(t, "between others", &between, spelt(size, 1)...)
			behind.Put(size, 1, 2, n)
			stays(t, "behind others", &behind, append(spelt(size, 1), spelt(size, 2)...)...)
			later.Put(1, 7)
			later.Put(size, n)
			stays(t, "a call later", &later, 7)
		}
	}
}

func TestP202BytesSharesNothing(t *testing.T) {
	var w Writer
	w.Put(1, 1, 2, 3)
	a, b := w.Bytes(), w.Bytes()
	a[0], a[2] = 100, 101
	// The room behind an answer may not be another one's, either.
	_ = append(a, 102)
	if room := a[:cap(a)]; len(room) > len(a) {
		room[len(a)] = 103
	}
	if !bytes.Equal(b, []byte{1, 2, 3}) {
		t.Errorf("the other answer is %v now", b)
	}
	wrote(t, "behind a change of an answer", &w, api.OK, 1, 2, 3)
	w.Put(1, 4)
	_ = append(b, 104)
	wrote(t, "behind Put", &w, api.OK, 1, 2, 3, 4)
	if !bytes.Equal(b, []byte{1, 2, 3}) {
		t.Errorf("an answer is %v behind Put", b)
	}
}

func TestP202PutLeavesItsListAlone(t *testing.T) {
	l := []int{4, 6, 10, 99}
	var w Writer
	w.Put(1, l[:3]...)
	if !slices.Equal(l, []int{4, 6, 10, 99}) {
		t.Errorf("the list is %v now", l)
	}
	l[0], l[1], l[2] = 7, 8, 9
	wrote(t, "behind a change of the list", &w, api.OK, 4, 6, 10)
}

package ledger_test

import (
	"math"
	"math/big"
	"math/rand/v2"
	"slices"
	"testing"

	"parclose/ledger"
	"parclose/num"
)

// most: the greatest number that fits.
const most = 1 << 62

func TestP1503SumOfSome(t *testing.T) {
	rows := []struct {
		l    []int
		want int
		ok   bool
	}{
		{nil, 0, true}, {[]int{}, 0, true},
		{[]int{0}, 0, true}, {[]int{1}, 1, true}, {[]int{7}, 7, true}, {[]int{most - 1}, most - 1, true}, {[]int{most}, most, true},
		{[]int{most + 1}, 0, false}, {[]int{math.MaxInt - 1}, 0, false}, {[]int{math.MaxInt}, 0, false},
		{[]int{-1}, 0, false}, {[]int{-most}, 0, false}, {[]int{math.MinInt}, 0, false}, {[]int{math.MinInt + 1}, 0, false},
		{[]int{1, 2, 3}, 6, true}, {[]int{0, 0, 0, 0}, 0, true}, {[]int{5, 0, 5}, 10, true},
		// Just so, and one more.
		{[]int{most - 1, 1}, most, true}, {[]int{most, 1}, 0, false}, {[]int{1, most}, 0, false}, {[]int{most, 0, 0}, most, true},
		{[]int{most / 2, most / 2}, most, true}, {[]int{most / 2, most / 2, 1}, 0, false}, {[]int{most/2 + 1, most / 2}, 0, false},
		{[]int{most / 4, most / 4, most / 4, most / 4}, most, true}, {[]int{most / 4, most / 4, most / 4, most/4 + 1}, 0, false},
		// Where ints wrap round, to what would fit too.
		{[]int{most, most}, 0, false}, {[]int{most, most, most, most}, 0, false}, {[]int{most, most, most, most, 5}, 0, false},
		{[]int{math.MaxInt, math.MaxInt, 2}, 0, false}, {[]int{math.MaxInt, 1, math.MaxInt, 1}, 0, false}, {[]int{math.MinInt, math.MinInt}, 0, false},
		{[]int{math.MinInt, math.MinInt, 7}, 0, false}, {[]int{math.MinInt, math.MaxInt, 1}, 0, false},
		// Numbers below 0 don't fit, though all together would.
		{[]int{5, -1}, 0, false}, {[]int{-1, 5}, 0, false}, {[]int{1, -1}, 0, false}, {[]int{-1, 1}, 0, false}, {[]int{0, -1, 1}, 0, false},
		{[]int{3, -3, 3}, 0, false}, {[]int{most, -most}, 0, false}, {[]int{most, -1, 1}, 0, false}, {[]int{-5, -5}, 0, false},
		// What comes of it doesn't fit on the way.
		{[]int{most, 1, -1}, 0, false}, {[]int{most, 5, -10, 5}, 0, false}, {[]int{1, math.MaxInt, -math.MaxInt}, 0, false},
		{[]int{most + 1, -1}, 0, false}, {[]int{most + 1, 0, 0, 3}, 0, false}, {[]int{3, 4, most, 5}, 0, false},
	}
	for _, r := range rows {
		if n, ok := ledger.Sum(r.l...); n != r.want || ok != r.ok {
			t.Errorf("Sum of %v: %d, %v", r.l, n, ok)
		}
	}
	if n, ok := ledger.Sum(); n != 0 || !ok {
		t.Errorf("Sum(): %d, %v", n, ok)
	}
}

// told: what is to be told, worked out without a bound.
func told(l []int) (int, bool) {
	all, bound := new(big.Int), big.NewInt(most)
	for _, n := range l {
		all.Add(all, big.NewInt(int64(n)))
		if n < 0 || all.Cmp(bound) > 0 {
			return 0, false
		}
	}
	return int(all.Int64()), true
}

func holdSum(t *testing.T, l []int) {
	t.Helper()
	n, ok := ledger.Sum(l...)
	if want, fits := told(l); n != want || ok != fits {
		t.Errorf("Sum of %v: %d, %v, not %d, %v", l, n, ok, want, fits)
	}
	var s num.Sum
	s.Add(l...)
	if want, whole := s.Value(); n != want || ok != whole {
		t.Errorf("Sum of %v: %d, %v, and num tells %d, %v", l, n, ok, want, whole)
	}
}

func TestP1503SumsOfTwoAndThree(t *testing.T) {
	edges := []int{math.MinInt, math.MinInt + 1, -most - 1, -most, -2, -1, 0, 1, 2, most/2 - 1, most / 2, most/2 + 1, most - 2, most - 1, most, most + 1, math.MaxInt - 1, math.MaxInt}
	for _, a := range edges {
		holdSum(t, []int{a})
		for _, b := range edges {
			holdSum(t, []int{a, b})
			for _, c := range edges {
				holdSum(t, []int{a, b, c})
			}
		}
	}
}

func TestP1503DrawnSums(t *testing.T) {
	r := rand.New(rand.NewPCG(15, 3))
	for range 20000 {
		l := make([]int, r.IntN(12))
		bits := 1 + r.IntN(62)
		for i := range l {
			l[i] = r.IntN(1 << bits)
			if r.IntN(40) == 0 {
				l[i] = -l[i]
			}
		}
		holdSum(t, l)
	}
	// Just so, in many parts, and one more or less, wherever that one is.
	for range 2000 {
		left := most
		var l []int
		for range r.IntN(20) {
			n := r.IntN(left/4 + 1)
			l = append(l, n)
			left -= n
		}
		l = append(l, left)
		r.Shuffle(len(l), func(i, j int) { l[i], l[j] = l[j], l[i] })
		holdSum(t, l)
		if n, ok := ledger.Sum(l...); n != most || !ok {
			t.Errorf("Sum of %v: %d, %v", l, n, ok)
		}
		at := r.IntN(len(l))
		l[at]++
		holdSum(t, l)
		if l[at] > 1 {
			l[at] -= 2
			holdSum(t, l)
		}
	}
}

func TestP1503ALongSum(t *testing.T) {
	l := make([]int, 1<<20)
	for i := range l {
		l[i] = most >> 20
	}
	if n, ok := ledger.Sum(l...); n != most || !ok {
		t.Errorf("just so: %d, %v", n, ok)
	}
	for _, at := range []int{0, len(l) / 2, len(l) - 1} {
		l[at]++
		if n, ok := ledger.Sum(l...); n != 0 || ok {
			t.Errorf("one more at %d: %d, %v", at, n, ok)
		}
		l[at]--
	}
}

func TestP1503SumLeavesItsNumbersAsTheyWere(t *testing.T) {
	r := rand.New(rand.NewPCG(15, 4))
	for range 300 {
		room := make([]int, 20)
		for i := range room {
			room[i] = r.IntN(1<<r.IntN(62)+1) - r.IntN(2)
		}
		was := slices.Clone(room)
		l := room[3 : 3+r.IntN(10)]
		n, ok := ledger.Sum(l...)
		if !slices.Equal(room, was) {
			t.Errorf("Sum of %v: they are others then", was)
		}
		// What was handed in is not kept, either.
		clear(room)
		if again, whole := ledger.Sum(was[3 : 3+len(l)]...); again != n || whole != ok {
			t.Errorf("Sum again: %d, %v, not %d, %v", again, whole, n, ok)
		}
	}
}

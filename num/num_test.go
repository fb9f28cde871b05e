package num

import (
	"math"
	"math/big"
	"testing"
)

// edges: numbers about which an answer may turn, or an int wrap round.
var edges = []int{
	math.MinInt, math.MinInt + 1, -Most - 1, -Most, -Most + 1, -1 << 32, -1 << 31, -1000, -7, -3, -2, -1,
	0, 1, 2, 3, 4, 7, 10, 1000, 1<<31 - 1, 1 << 31, 1<<31 + 1, 1<<32 - 1, 1 << 32,
	Most/3 - 1, Most / 3, Most/3 + 1, Most/2 - 1, Most / 2, Most/2 + 1, Most - 1, Most, Most + 1, math.MaxInt - 1, math.MaxInt,
}

func big64(n int) *big.Int { return big.NewInt(int64(n)) }

// told: what is to be told of a number that is worked out without a bound, and of whether the numbers that it is made of fit.
func told(n *big.Int, fit bool) (int, bool) {
	if !fit || n.Sign() < 0 || n.Cmp(big64(Most)) > 0 {
		return 0, false
	}
	return int(n.Int64()), true
}

// inRange: the words of the chapter, not the program's own function.
func inRange(n int) bool { return 0 <= n && n <= 1<<62 }

func TestP102MostIsTwoTo62(t *testing.T) {
	if Most != 4611686018427387904 {
		t.Errorf("Most is %d", Most)
	}
}

func TestP102AddOfTwo(t *testing.T) {
	rows := []struct {
		a, b, want int
		ok         bool
	}{
		{0, 0, 0, true},
		{2, 3, 5, true},
		{Most, 0, Most, true},
		{0, Most, Most, true},
		{Most - 1, 1, Most, true},
		{Most / 2, Most / 2, Most, true},
		{Most, 1, 0, false},
		{1, Most, 0, false},
		{Most, Most, 0, false},
		{Most/2 + 1, Most / 2, 0, false},
		{-1, 5, 0, false},
		{5, -1, 0, false},
		{-1, -1, 0, false},
		{Most + 1, -1, 0, false},
		{-1, Most + 1, 0, false},
		{Most + 1, 0, 0, false},
		{0, Most + 1, 0, false},
		{math.MaxInt, math.MaxInt, 0, false},
		{math.MinInt, math.MinInt, 0, false},
		{math.MinInt, math.MaxInt, 0, false},
	}
	for _, r := range rows {
		if n, ok := Add(r.a, r.b); n != r.want || ok != r.ok {
			t.Errorf("Add(%d, %d): %d, %v; not %d, %v", r.a, r.b, n, ok, r.want, r.ok)
		}
	}
}

func TestP102MulOfTwo(t *testing.T) {
	rows := []struct {
		a, b, want int
		ok         bool
	}{
		{0, 0, 0, true},
		{6, 7, 42, true},
		{0, Most, 0, true},
		{Most, 0, 0, true},
		{1, Most, Most, true},
		{Most, 1, Most, true},
		{1 << 31, 1 << 31, Most, true},
		{1<<31 + 1, 1 << 31, 0, false},
		{1 << 32, 1 << 31, 0, false},
		{1 << 32, 1 << 32, 0, false},
		{Most, 2, 0, false},
		{Most, Most, 0, false},
		{3, Most / 3, Most / 3 * 3, true},
		{3, Most/3 + 1, 0, false},
		{-1, 0, 0, false},
		{0, -1, 0, false},
		{-1, -1, 0, false},
		{-2, 3, 0, false},
		{0, Most + 1, 0, false},
		{Most + 1, 0, 0, false},
		{math.MaxInt, 1, 0, false},
		{math.MinInt, -1, 0, false},
		{-1, math.MinInt, 0, false},
	}
	for _, r := range rows {
		if n, ok := Mul(r.a, r.b); n != r.want || ok != r.ok {
			t.Errorf("Mul(%d, %d): %d, %v; not %d, %v", r.a, r.b, n, ok, r.want, r.ok)
		}
	}
}

func TestP102AddAndMulAtAllEdges(t *testing.T) {
	for _, a := range edges {
		for _, b := range edges {
			fit := inRange(a) && inRange(b)
			want, whole := told(new(big.Int).Add(big64(a), big64(b)), fit)
			if n, ok := Add(a, b); n != want || ok != whole {
				t.Errorf("Add(%d, %d): %d, %v; not %d, %v", a, b, n, ok, want, whole)
			}
			want, whole = told(new(big.Int).Mul(big64(a), big64(b)), fit)
			if n, ok := Mul(a, b); n != want || ok != whole {
				t.Errorf("Mul(%d, %d): %d, %v; not %d, %v", a, b, n, ok, want, whole)
			}
		}
	}
}

func TestP103Gcd(t *testing.T) {
	rows := []struct{ a, b, want int }{
		{12, 18, 6},
		{18, 12, 6},
		{7, 7, 7},
		{7, 13, 1},
		{1, 5, 1},
		{0, 5, 5},
		{5, 0, 5},
		{0, 0, 0},
		{-1, 5, 0},
		{5, -1, 0},
		{-4, -6, 0},
		{0, -5, 0},
		{-5, 0, 0},
		{math.MinInt, math.MinInt, 0},
		{math.MinInt, -1, 0},
		{math.MinInt, 0, 0},
		{Most, 1 << 40, 1 << 40},
		{math.MaxInt, math.MaxInt, math.MaxInt},
		{math.MaxInt, 0, math.MaxInt},
		{math.MaxInt, 49, 49},
		{math.MaxInt, Most, 1},
	}
	for _, r := range rows {
		if n := Gcd(r.a, r.b); n != r.want {
			t.Errorf("Gcd(%d, %d): %d, not %d", r.a, r.b, n, r.want)
		}
	}
}

// greatestDivisor: found by trying, as the promise words it.
func greatestDivisor(a, b int) int {
	for n := min(a, b); ; n-- {
		if a%n == 0 && b%n == 0 {
			return n
		}
	}
}

func TestP103GcdOfSmallNumbers(t *testing.T) {
	for a := 1; a <= 60; a++ {
		for b := 1; b <= 60; b++ {
			if n := Gcd(a, b); n != greatestDivisor(a, b) {
				t.Errorf("Gcd(%d, %d): %d, not %d", a, b, n, greatestDivisor(a, b))
			}
		}
	}
}

func TestP103Lcm(t *testing.T) {
	rows := []struct {
		most int
		l    []int
		want int
		ok   bool
	}{
		{100, []int{4, 6, 10}, 60, true},
		{60, []int{4, 6, 10}, 60, true},
		{59, []int{4, 6, 10}, 0, false},
		{1, nil, 1, true},
		{1, []int{}, 1, true},
		{0, nil, 0, false},
		{-1, nil, 0, false},
		{math.MinInt, nil, 0, false},
		{math.MaxInt, nil, 1, true},
		{7, []int{7}, 7, true},
		{6, []int{7}, 0, false},
		{100, []int{1}, 1, true},
		{100, []int{1, 1, 1}, 1, true},
		{100, []int{5, 5, 5}, 5, true},
		{0, []int{1}, 0, false},
		{100, []int{0}, 0, false},
		{100, []int{-1}, 0, false},
		{100, []int{0, 4}, 0, false},
		{100, []int{4, 0}, 0, false},
		{100, []int{4, 6, -12}, 0, false},
		{100, []int{math.MinInt, 4}, 0, false},
		{math.MaxInt, []int{math.MaxInt, 0}, 0, false},
		{Most, []int{Most}, Most, true},
		{Most, []int{Most, 1 << 40, 2}, Most, true},
		{Most - 1, []int{Most}, 0, false},
		{Most, []int{Most, 3}, 0, false},
		{math.MaxInt, []int{Most}, Most, true},
		{math.MaxInt, []int{Most + 1}, 0, false},
		{math.MaxInt, []int{math.MaxInt}, 0, false},
		{math.MaxInt, []int{math.MaxInt, math.MaxInt - 1}, 0, false},
		{math.MaxInt, []int{1 << 31, 1 << 31, 1<<31 - 1}, 1 << 31 * (1<<31 - 1), true},
		{math.MaxInt, []int{1 << 32, 1<<31 - 1}, 0, false},
		{math.MaxInt, []int{1<<32 - 1, 1<<32 + 1}, 0, false},
	}
	for _, r := range rows {
		if n, ok := Lcm(r.most, r.l...); n != r.want || ok != r.ok {
			t.Errorf("Lcm(%d, %v): %d, %v; not %d, %v", r.most, r.l, n, ok, r.want, r.ok)
		}
	}
}

// leastMultiple: found by trying, as the promise words it.
func leastMultiple(a, b, c int) int {
	for n := 1; ; n++ {
		if n%a == 0 && n%b == 0 && n%c == 0 {
			return n
		}
	}
}

func TestP103LcmOfSmallNumbers(t *testing.T) {
	for a := 1; a <= 15; a++ {
		for b := 1; b <= 15; b++ {
			for c := 1; c <= 15; c++ {
				want := leastMultiple(a, b, c)
				if n, ok := Lcm(want, a, b, c); n != want || !ok {
					t.Errorf("Lcm(%d, %d, %d, %d): %d, %v", want, a, b, c, n, ok)
				}
				if n, ok := Lcm(want-1, a, b, c); n != 0 || ok {
					t.Errorf("Lcm(%d, %d, %d, %d): %d, %v", want-1, a, b, c, n, ok)
				}
			}
		}
	}
}

func TestP103LcmLeavesItsListAlone(t *testing.T) {
	l := []int{4, 6, 10, 99}
	Lcm(100, l[:3]...)
	for i, n := range []int{4, 6, 10, 99} {
		if l[i] != n {
			t.Errorf("the list is %v now", l)
		}
	}
}

func TestP104(t *testing.T) {
	rows := []struct{ a, b, floor, mod, ceil int }{
		{0, 1, 0, 0, 0},
		{0, 5, 0, 0, 0},
		{7, 2, 3, 1, 4},
		{6, 2, 3, 0, 3},
		{-7, 2, -4, 1, -3},
		{-6, 2, -3, 0, -3},
		{1, 5, 0, 1, 1},
		{-1, 5, -1, 4, 0},
		{-5, 5, -1, 0, -1},
		{5, 0, 0, 0, 0},
		{-5, 0, 0, 0, 0},
		{0, 0, 0, 0, 0},
		{5, -1, 0, 0, 0},
		{-7, -2, 0, 0, 0},
		{math.MinInt, -1, 0, 0, 0},
		{math.MaxInt, math.MinInt, 0, 0, 0},
		{math.MinInt, 1, math.MinInt, 0, math.MinInt},
		{math.MaxInt, 1, math.MaxInt, 0, math.MaxInt},
		{math.MinInt, 2, -Most, 0, -Most},
		{math.MaxInt, 2, Most - 1, 1, Most},
		{math.MinInt, math.MaxInt, -2, math.MaxInt - 1, -1},
		{math.MaxInt, math.MaxInt, 1, 0, 1},
	}
	for _, r := range rows {
		if n := Floor(r.a, r.b); n != r.floor {
			t.Errorf("Floor(%d, %d): %d, not %d", r.a, r.b, n, r.floor)
		}
		if n := Mod(r.a, r.b); n != r.mod {
			t.Errorf("Mod(%d, %d): %d, not %d", r.a, r.b, n, r.mod)
		}
		if n := Ceil(r.a, r.b); n != r.ceil {
			t.Errorf("Ceil(%d, %d): %d, not %d", r.a, r.b, n, r.ceil)
		}
	}
}

// divided: a divided by b, rounded down and up, and what is left, worked out without a bound.
func divided(a, b int) (floor, mod, ceil int) {
	down, left := new(big.Int).DivMod(big64(a), big64(b), new(big.Int))
	up := new(big.Int).Set(down)
	if left.Sign() != 0 {
		up.Add(up, big64(1))
	}
	return int(down.Int64()), int(left.Int64()), int(up.Int64())
}

func TestP104AtAllEdges(t *testing.T) {
	for _, a := range edges {
		for _, b := range edges {
			floor, mod, ceil := 0, 0, 0
			if b >= 1 {
				floor, mod, ceil = divided(a, b)
			}
			if n := Floor(a, b); n != floor {
				t.Errorf("Floor(%d, %d): %d, not %d", a, b, n, floor)
			}
			if n := Mod(a, b); n != mod {
				t.Errorf("Mod(%d, %d): %d, not %d", a, b, n, mod)
			}
			if n := Ceil(a, b); n != ceil {
				t.Errorf("Ceil(%d, %d): %d, not %d", a, b, n, ceil)
			}
		}
	}
}

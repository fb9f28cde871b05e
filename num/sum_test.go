package num

import (
	"math"
	"testing"
)

// expect holds a sum's value, asked twice, as asking changes nothing, against what it is to be.
func expect(t *testing.T, what string, s *Sum, want int, whole bool) {
	t.Helper()
	for range 2 {
		if n, ok := s.Value(); n != want || ok != whole {
			t.Errorf("%s: %d, %v; not %d, %v", what, n, ok, want, whole)
		}
	}
}

func TestP101TheZeroSum(t *testing.T) {
	var s Sum
	expect(t, "the zero Sum", &s, 0, true)
	expect(t, "a new Sum", new(Sum), 0, true)
	expect(t, "a Sum of a literal", &Sum{}, 0, true)
}

func TestP101NilSum(t *testing.T) {
	var s *Sum
	expect(t, "a nil Sum", s, 0, false)
	s.Add()
	s.Add(1, 2)
	s.Add(-1)
	s.Mul(3)
	s.Mul(-1)
	expect(t, "a nil Sum behind Add and Mul", s, 0, false)
}

func TestP101SumsAreApart(t *testing.T) {
	var a, b Sum
	a.Add(5)
	b.Add(-1)
	expect(t, "the one that is whole", &a, 5, true)
	expect(t, "the other one", &b, 0, false)
	c := a
	c.Add(-1)
	expect(t, "what was copied", &a, 5, true)
}

func TestP102SumAdds(t *testing.T) {
	rows := []struct {
		what  string
		l     []int
		want  int
		whole bool
	}{
		{"nil", nil, 0, true},
		{"none", []int{}, 0, true},
		{"one", []int{7}, 7, true},
		{"several", []int{1, 2, 3}, 6, true},
		{"noughts", []int{0, 0}, 0, true},
		{"Most", []int{Most}, Most, true},
		{"up to Most", []int{Most - 3, 1, 2}, Most, true},
		{"past Most", []int{Most - 3, 1, 2, 1}, 0, false},
		{"Most twice", []int{Most, Most}, 0, false},
		{"wrapped round to fit again", []int{Most, Most, Most, Most, 5}, 0, false},
		{"one above Most", []int{Most + 1}, 0, false},
		{"one below 0", []int{-1}, 0, false},
		{"one below 0 behind others", []int{5, -1}, 0, false},
		{"one below 0 ahead of others", []int{-1, 5}, 0, false},
		{"one below 0 in between", []int{5, -1, 5}, 0, false},
		{"the greatest int", []int{math.MaxInt}, 0, false},
		{"the least int", []int{math.MinInt, math.MinInt}, 0, false},
	}
	for _, r := range rows {
		s := &Sum{}
		s.Add(r.l...)
		expect(t, r.what, s, r.want, r.whole)
	}
}

func TestP102SumMultiplies(t *testing.T) {
	rows := []struct {
		what     string
		first, n int
		want     int
		whole    bool
	}{
		{"ordinary", 6, 7, 42, true},
		{"nought times something", 0, 7, 0, true},
		{"something times nought", 7, 0, 0, true},
		{"Most times one", Most, 1, Most, true},
		{"nought times Most", 0, Most, 0, true},
		{"just Most", 1 << 31, 1 << 31, Most, true},
		{"past Most", 1 << 31, 1<<31 + 1, 0, false},
		{"wrapped round to nought", 1 << 32, 1 << 32, 0, false},
		{"below 0", 6, -1, 0, false},
		{"nought times one below 0", 0, -1, 0, false},
		{"nought times one above Most", 0, Most + 1, 0, false},
		{"the least int", 2, math.MinInt, 0, false},
	}
	for _, r := range rows {
		s := &Sum{}
		s.Add(r.first)
		s.Mul(r.n)
		expect(t, r.what, s, r.want, r.whole)
	}
}

func TestP102SumGoesOn(t *testing.T) {
	s := &Sum{}
	s.Add(1, 2, 3)
	s.Mul(7)
	expect(t, "6 times 7", s, 42, true)
	s.Add(8)
	expect(t, "8 more", s, 50, true)
	s.Add()
	expect(t, "none more", s, 50, true)
	s.Mul(0)
	expect(t, "times 0", s, 0, true)
	s.Add(4)
	expect(t, "4 more", s, 4, true)
}

func TestP102SumStaysBroken(t *testing.T) {
	breaks := map[string]func(*Sum){
		"a number below 0":         func(s *Sum) { s.Add(-1) },
		"a number above Most":      func(s *Sum) { s.Add(Most + 1) },
		"a sum above Most":         func(s *Sum) { s.Add(Most, 1) },
		"times a number below 0":   func(s *Sum) { s.Mul(-1) },
		"times one above Most":     func(s *Sum) { s.Mul(Most + 1) },
		"a product above Most":     func(s *Sum) { s.Add(2); s.Mul(Most) },
		"in the middle of numbers": func(s *Sum) { s.Add(1, -1, 1) },
	}
	for what, wrong := range breaks {
		s := &Sum{}
		wrong(s)
		expect(t, what, s, 0, false)
		s.Add()
		expect(t, what+", then none added", s, 0, false)
		s.Add(5)
		expect(t, what+", then 5 added", s, 0, false)
		s.Mul(0)
		expect(t, what+", then times 0", s, 0, false)
		s.Mul(1)
		s.Add(3, 4)
		expect(t, what+", then more", s, 0, false)
	}
}

func TestP102SumLeavesItsListAlone(t *testing.T) {
	l := []int{4, -6, 10, 99}
	s := &Sum{}
	s.Add(l[:3]...)
	for i, n := range []int{4, -6, 10, 99} {
		if l[i] != n {
			t.Errorf("the list is %v now", l)
		}
	}
}

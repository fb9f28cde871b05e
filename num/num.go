// Package num is layer 1: sums that say when they don't fit: see shared/doc/01-num.md.
package num

// Most: the greatest number that fits.
const Most = 1 << 62

func fits(n int) bool { return n >= 0 && n <= Most }

// Add: both together, if all fit.
func Add(a, b int) (int, bool) {
	// What is left up to Most is asked, as two numbers that fit may together be more than an int holds.
	if !fits(a) || !fits(b) || b > Most-a {
		return 0, false
	}
	return a + b, true
}

// Mul: one times the other, if all fit.
func Mul(a, b int) (int, bool) {
	if !fits(a) || !fits(b) {
		return 0, false
	}
	// Divided, not multiplied, as the product may wrap round.
	if a != 0 && b > Most/a {
		return 0, false
	}
	return a * b, true
}

// Gcd: the greatest number that divides both; 0, if one is below 0.
func Gcd(a, b int) int {
	if a < 0 || b < 0 {
		return 0
	}
	for b != 0 {
		a, b = b, a%b
	}
	return a
}

// Lcm: the least number that all divide, if it is at most most.
func Lcm(most int, l ...int) (int, bool) {
	all := 1
	for _, n := range l {
		if n < 1 {
			return 0, false
		}
		// Divided first, so that nothing on the way is greater than what comes of it. As it never falls, what doesn't fit here doesn't fit at the end.
		next, ok := Mul(all/Gcd(all, n), n)
		if !ok {
			return 0, false
		}
		all = next
	}
	if all > most {
		return 0, false
	}
	return all, true
}

// Floor: a divided by b, rounded down; 0, if b is below 1.
func Floor(a, b int) int {
	if b < 1 {
		return 0
	}
	// The language rounds towards 0, which is up where something below 0 is left.
	if a%b < 0 {
		return a/b - 1
	}
	return a / b
}

// Ceil: a divided by b, rounded up; 0, if b is below 1.
func Ceil(a, b int) int {
	if b < 1 {
		return 0
	}
	if a%b > 0 {
		return a/b + 1
	}
	return a / b
}

// Mod: what is left behind Floor, from 0 to below b; 0, if b is below 1.
func Mod(a, b int) int {
	if b < 1 {
		return 0
	}
	left := a % b
	if left < 0 {
		left += b
	}
	return left
}

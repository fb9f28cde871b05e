package admit

import (
	"math"
	"testing"

	"parclose/conf"
)

func checkSlack(t *testing.T, c conf.Config, p, n int, high bool, want int) {
	t.Helper()
	if slack, ok := Slack(c, p, n, high); slack != want || !ok {
		t.Errorf("%+v, partition %d, high %v: the slack of %d is %d, %v; not %d", c, p, high, n, slack, ok, want)
	}
}

func noSlack(t *testing.T, c conf.Config, p, n int) {
	t.Helper()
	for _, high := range modes {
		if slack, ok := Slack(c, p, n, high); slack != 0 || ok {
			t.Errorf("%+v, partition %d, high %v: the slack of %d is %d, %v", c, p, high, n, slack, ok)
		}
	}
}

func TestP1103SlackOfTheExample(t *testing.T) {
	for n, want := range map[int]int{0: 0, 1: 0, 7: 0, 8: 1, 9: 2, 10: -1, 11: -1, 17: -1, 18: 0, 19: 1, 20: -2, 30: -3, 40: -4} {
		checkSlack(t, example(), 0, n, false, want)
	}
	for n, want := range map[int]int{0: 0, 7: 0, 8: 1, 9: 2, 10: 3, 11: 3, 18: 4, 19: 5, 20: 6} {
		checkSlack(t, example(), 0, n, true, want)
	}
}

func TestP1103SlackBelowZeroAtZeroAndAbove(t *testing.T) {
	c := alone(10, 10, of(high(10, 10, 10, 3, 8)))
	checkSlack(t, c, 0, 0, false, 0)
	checkSlack(t, c, 0, 9, false, 9)
	checkSlack(t, c, 0, 10, false, 7)
	checkSlack(t, c, 0, 0, true, -5)
	checkSlack(t, c, 0, 4, true, -4)
	checkSlack(t, c, 0, 8, true, 0)
	checkSlack(t, c, 0, 9, true, 1)
	checkSlack(t, c, 0, 10, true, -3)
	checkSlack(t, c, 0, 20, true, -1)
}

func TestP1103SlackIsCut(t *testing.T) {
	c := alone(10, 10, of(high(10, 10, 10, 3, 8), low(20, 20, 5)))
	for _, n := range []int{math.MinInt, math.MinInt + 1, -1 << 62, -1 << 40, -1<<32 + 10, -10, -2, -1, 0} {
		checkSlack(t, c, 0, n, false, 0)
		checkSlack(t, c, 0, n, true, -5)
	}
	// 2^40 is 6 more than whole tens, and 16 more than whole twenties.
	const far = 1 << 40
	lowFar, highFar := far-far/10*3-far/20*5, far-(far/10*8+5+3)
	for _, n := range []int{far, far + 1, far + 4, far + 10, far + 1000, 1 << 41, 1 << 50, 1<<50 + 1, 1<<50 + 10, 1 << 51, 1 << 62, math.MaxInt - 10, math.MaxInt - 1, math.MaxInt} {
		checkSlack(t, c, 0, n, false, lowFar)
		checkSlack(t, c, 0, n, true, highFar)
	}
	checkSlack(t, c, 0, far-1, false, lowFar-1)
	checkSlack(t, c, 0, far-1, true, highFar-1)
	// All that goes into 2^40 ticks, and more than all of it.
	checkSlack(t, alone(1, 1, conf.Part{}), 0, math.MaxInt, false, far)
	checkSlack(t, alone(1, 0, of(low(1, 1, 1), low(1, 1, 1), low(1, 1, 1))), 0, math.MaxInt, false, -3*far)
	checkSlack(t, alone(256, 256, of(low(1, 1, 1))), 0, far, false, 0)
}

func TestP1103SlackOfEachPartition(t *testing.T) {
	c := shared(20, light(), lowFirst(), conf.Part{}, conf.Part{})
	for p := range c.Parts {
		for _, high := range modes {
			for n, want := range slacks(c, p, 300, high) {
				checkSlack(t, c, p, n, high, want)
			}
		}
	}
}

// A slack needs no bound.
func TestP1103SlackOfABoundThatIsNone(t *testing.T) {
	c := shared(20, light(), none())
	for _, high := range modes {
		for n, want := range slacks(c, 1, 3000, high) {
			checkSlack(t, c, 1, n, high, want)
		}
	}
	bad := alone(10, 0, none())
	checkSlack(t, bad, 0, 997, false, -3)
	checkSlack(t, bad, 0, 982, false, 0)
	checkSlack(t, bad, 0, 997, true, 0)
}

func TestP1103SlackOfWhatMayNotBe(t *testing.T) {
	for _, w := range wrongs() {
		for _, p := range append(noParts(len(w.c.Parts)), 0, 1) {
			for _, n := range []int{math.MinInt, -1, 0, 1, 10, 20, 1 << 40, math.MaxInt} {
				noSlack(t, w.c, p, n)
			}
		}
	}
}

func TestP1103SlackOfNoPartition(t *testing.T) {
	for _, c := range []conf.Config{example(), shared(20, lowBreaks(), highBreaks()), shared(20, light(), light(), none(), conf.Part{})} {
		for _, p := range noParts(len(c.Parts)) {
			for _, n := range edges {
				noSlack(t, c, p, n)
			}
		}
	}
}

func TestP1103SlackIsAsCounted(t *testing.T) {
	for _, c := range systems(t, 100) {
		for p := range c.Parts {
			for _, high := range modes {
				for n, want := range slacks(c, p, 130, high) {
					checkSlack(t, c, p, n, high, want)
				}
			}
		}
	}
}

package admit

import (
	"math"
	"testing"

	"parclose/conf"
)

func checkPhase(t *testing.T, c conf.Config, p int, high bool, want int, ok bool) {
	t.Helper()
	if n, told := Phase(c, p, high); n != want || told != ok {
		t.Errorf("%+v, partition %d, high %v: it breaks at %d, %v; not %d, %v", c, p, high, n, told, want, ok)
	}
}

// checkBoth: low and high are where the phases break; below 0, if they never do.
func checkBoth(t *testing.T, c conf.Config, p, low, high int) {
	t.Helper()
	checkPhase(t, c, p, false, max(low, 0), low >= 0)
	checkPhase(t, c, p, true, max(high, 0), high >= 0)
}

// noParts: numbers that are no partition of a system of so many.
func noParts(parts int) []int {
	return []int{math.MinInt, math.MinInt + 1, -1 << 32, -parts, -2, -1, parts, parts + 1, 6, 7, 256, 1 << 32, 1<<32 + 1, 1 << 62, math.MaxInt - 1, math.MaxInt}
}

func TestP1103PhaseOfEach(t *testing.T) {
	checkBoth(t, example(), 0, 10, -1)
	checkBoth(t, alone(10, 4, of(low(10, 10, 4))), 0, -1, -1)
	c := conf.Config{Frame: 50, Windows: []conf.Window{win(0, 10, 0), win(10, 10, 1), win(20, 10, 2), win(30, 10, 3), win(40, 10, 4)}}
	c.Parts = []conf.Part{of(low(50, 50, 10)), of(low(50, 50, 11)), of(high(50, 50, 25, 1, 11)), of(high(50, 50, 50, 1, 2), low(100, 45, 6)), {}, {}}
	checkBoth(t, c, 0, -1, -1)
	checkBoth(t, c, 1, 50, -1)
	checkBoth(t, c, 2, 25, 25)
	checkBoth(t, c, 3, 45, 0)
	checkBoth(t, c, 4, -1, -1)
	checkBoth(t, c, 5, -1, -1)
	c.Parts[5] = of(low(1000, 1000, 1))
	checkBoth(t, c, 5, 1000, -1)
	c.Parts[5] = of(high(1000, 1000, 1000, 1, 1))
	checkBoth(t, c, 5, 1000, 1)
}

// One phase breaks, be it the later one, and the other does or not.
func TestP1103PhaseWhateverTheOtherOnesDo(t *testing.T) {
	c := shared(20, highBreaks(), lowBreaks())
	checkBoth(t, c, 0, -1, 20)
	checkBoth(t, c, 1, 20, -1)
	c = shared(20, lowBreaks(), highBreaks())
	checkBoth(t, c, 0, 20, -1)
	checkBoth(t, c, 1, -1, 20)
	c = shared(20, bothBreak(), lowFirst())
	checkBoth(t, c, 0, 20, 0)
	checkBoth(t, c, 1, 5, 20)
	c = shared(20, light(), bothBreak())
	checkBoth(t, c, 0, -1, -1)
	checkBoth(t, c, 1, 20, 0)
	checkBoth(t, late(), 0, 65280, -1)
	checkBoth(t, behind(), 0, 199, -1)
}

// A bound that is none hides that partition's phases, not those of others.
func TestP1103PhaseOfABoundThatIsNone(t *testing.T) {
	c := shared(20, none(), lowBreaks())
	checkBoth(t, c, 0, -1, -1)
	checkBoth(t, c, 1, 20, -1)
	c = shared(20, highBreaks(), none())
	checkBoth(t, c, 0, -1, 20)
	checkBoth(t, c, 1, -1, -1)
	// It would break at 0, and at 1.
	bad := none()
	bad.Tasks = append(bad.Tasks, high(10, 10, 10, 1, 10), low(10, 1, 1))
	checkBoth(t, alone(10, 0, bad), 0, -1, -1)
	// It would break at 997, and the frame alone is what makes its round too large.
	checkBoth(t, alone(251, 0, of(low(997, 997, 1))), 0, -1, -1)
	checkBoth(t, alone(1, 0, of(low(997, 997, 1))), 0, 997, -1)
	// Its round is small enough, but not far as well.
	checkBoth(t, alone(255, 0, of(low(256, 256, 1))), 0, 256, -1)
	checkBoth(t, alone(255, 0, of(low(256, 256, 1), low(510, 257, 1))), 0, -1, -1)
}

func TestP1103PhaseOfWhatMayNotBe(t *testing.T) {
	for _, w := range wrongs() {
		for _, p := range append(noParts(len(w.c.Parts)), 0, 1, 2) {
			checkBoth(t, w.c, p, -1, -1)
		}
	}
}

func TestP1103PhaseOfNoPartition(t *testing.T) {
	for _, c := range []conf.Config{example(), shared(20, lowBreaks(), highBreaks()), shared(20, bothBreak(), bothBreak(), bothBreak(), none())} {
		for _, p := range noParts(len(c.Parts)) {
			checkBoth(t, c, p, -1, -1)
		}
	}
	// As many as there may be.
	c := conf.Config{Frame: 10, Parts: []conf.Part{lowBreaks(), lowBreaks(), lowBreaks(), lowBreaks(), lowBreaks(), lowBreaks()}}
	checkBoth(t, c, 5, 20, -1)
	checkBoth(t, c, 6, -1, -1)
	checkBoth(t, c, -1, -1, -1)
}

func TestP1103PhaseIsAsByTrying(t *testing.T) {
	broken := map[[2]bool]int{}
	for _, c := range systems(t, 1500) {
		for p := range c.Parts {
			var both [2]bool
			for i, high := range modes {
				n, ok := breaksOf(c, p, high)
				checkPhase(t, c, p, high, n, ok)
				both[i] = ok
			}
			broken[both]++
		}
	}
	if len(broken) < 4 {
		t.Errorf("just so of phases break: %v", broken)
	}
}

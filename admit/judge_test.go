package admit

import (
	"math/rand/v2"
	"testing"

	"parclose/api"
	"parclose/conf"
)

func checkJudge(t *testing.T, c conf.Config, want Verdict, wanted api.Errno) {
	t.Helper()
	if v, err := Judge(c); v != want || err != wanted {
		t.Errorf("%+v: the verdict is %+v, error %d; not %+v, error %d", c, v, err, want, wanted)
	}
}

// The parts of these verdicts are written as numbers, as the chapter names them.
func admitted(t *testing.T, c conf.Config) {
	t.Helper()
	checkJudge(t, c, Verdict{Kind: 0}, api.OK)
}

func rejected(t *testing.T, c conf.Config, p int, high bool, ticks int) {
	t.Helper()
	checkJudge(t, c, Verdict{Kind: 1, Part: p, High: high, T: ticks}, api.OK)
}

func tooLarge(t *testing.T, c conf.Config, p int) {
	t.Helper()
	checkJudge(t, c, Verdict{Kind: 2, Part: p}, api.OK)
}

func TestP1102Example(t *testing.T) {
	rejected(t, example(), 0, false, 10)
}

// DOC.md's ninth example of the whole.
func TestP1102ExampleOfTheWhole(t *testing.T) {
	c := shared(10, of(low(10, 10, 5)), of(low(10, 10, 6)))
	rejected(t, c, 1, false, 10)
	c.Parts[0], c.Parts[1] = c.Parts[1], c.Parts[0]
	rejected(t, c, 0, false, 10)
}

func TestP1102Kinds(t *testing.T) {
	if Admit != 0 || Reject != 1 || Large != 2 {
		t.Errorf("the kinds are %d, %d and %d", Admit, Reject, Large)
	}
}

func TestP1102JudgeOfWhatMayNotBe(t *testing.T) {
	met := map[api.Errno]bool{}
	for _, w := range wrongs() {
		checkJudge(t, w.c, Verdict{}, w.err)
		met[w.err] = true
	}
	for _, err := range []api.Errno{api.ErrFrame, api.ErrArg, api.ErrWindow, api.ErrTask, api.ErrServer, api.ErrHealth, api.ErrDonee, api.ErrChannel} {
		if !met[err] {
			t.Errorf("no system with error %d was judged", err)
		}
	}
}

// A system of no partitions may not be, whatever else it is made of.
func TestP1102JudgeOfNoPartitions(t *testing.T) {
	checkJudge(t, conf.Config{Frame: 10}, Verdict{}, api.ErrArg)
	checkJudge(t, conf.Config{Frame: 10, Parts: []conf.Part{}, Windows: []conf.Window{win(0, 5, 0)}}, Verdict{}, api.ErrArg)
	checkJudge(t, conf.Config{}, Verdict{}, api.ErrFrame)
}

func TestP1102JudgeOfBoundsThatAreNone(t *testing.T) {
	tooLarge(t, shared(20, none()), 0)
	tooLarge(t, shared(20, none(), light()), 0)
	tooLarge(t, shared(20, light(), none()), 1)
	tooLarge(t, shared(20, none(), none()), 0)
	tooLarge(t, shared(20, light(), none(), light(), none()), 1)
	tooLarge(t, shared(60, light(), light(), light(), light(), light(), none()), 5)
	// Where others break as well, ahead of it, behind it, or itself.
	tooLarge(t, shared(20, lowBreaks(), none()), 1)
	tooLarge(t, shared(20, highBreaks(), none()), 1)
	tooLarge(t, shared(20, none(), lowBreaks()), 0)
	tooLarge(t, shared(20, bothBreak(), lowBreaks(), none(), highBreaks(), none()), 2)
	tooLarge(t, alone(20, 0, none()), 0)
	// By servers, and by the frame.
	tooLarge(t, shared(20, light(), conf.Part{Servers: []conf.Server{{C: 1, T: 997}, {C: 1, T: 991}}}), 1)
	tooLarge(t, alone(251, 251, of(low(997, 997, 1))), 0)
}

// About the greatest bound: 65280 and 256 go, and what is just above it does not.
func TestP1102JudgeOfJustMaxBound(t *testing.T) {
	admitted(t, alone(256, 256, of(low(255, 255, 1))))
	admitted(t, alone(1, 1, of(low(255, 255, 1), low(256, 256, 254))))
	admitted(t, alone(255, 255, of(low(256, 256, 1))))
	tooLarge(t, alone(1, 1, of(low(255, 255, 1), low(257, 257, 1))), 0)
	tooLarge(t, alone(255, 255, of(low(256, 256, 1), low(510, 257, 1))), 0)
	admitted(t, alone(255, 255, of(low(256, 256, 1), low(510, 256, 1))))
	rejected(t, late(), 0, false, 65280)
}

func TestP1102JudgeOfWhatIsAdmitted(t *testing.T) {
	admitted(t, alone(10, 0, conf.Part{}))
	admitted(t, alone(1, 1, conf.Part{}))
	admitted(t, conf.Config{Frame: 256, Margin: 8, Parts: make([]conf.Part, 6)})
	admitted(t, alone(10, 4, of(low(10, 10, 4))))
	admitted(t, alone(1, 1, of(low(1, 1, 1))))
	admitted(t, alone(1, 1, of(high(1, 1, 1, 1, 1))))
	admitted(t, alone(1000/4, 1000/4, of(low(1000, 1000, 1000))))
	admitted(t, alone(10, 10, of(high(10, 10, 2, 2, 10))))
	admitted(t, alone(10, 10, conf.Part{Servers: []conf.Server{{C: 10, T: 10}}}))
	admitted(t, shared(20, light(), light()))
	admitted(t, shared(60, conf.Part{}, of(low(120, 120, 1)), conf.Part{}, of(high(120, 120, 60, 1, 2)), conf.Part{}, conf.Part{}))
	// Servers don't count in high mode.
	admitted(t, alone(10, 10, conf.Part{Tasks: []conf.Task{high(10, 10, 2, 2, 10)}, Servers: []conf.Server{{C: 8, T: 10}}}))
	rejected(t, alone(10, 10, conf.Part{Tasks: []conf.Task{high(10, 10, 2, 2, 10)}, Servers: []conf.Server{{C: 9, T: 10}}}), 0, false, 10)
	// Nor do low tasks.
	admitted(t, alone(10, 10, of(high(10, 10, 2, 2, 10), low(10, 10, 8))))
}

func TestP1102JudgeTellsTheFirstThatBreaks(t *testing.T) {
	rejected(t, shared(20, lowBreaks(), light()), 0, false, 20)
	rejected(t, shared(20, highBreaks(), light()), 0, true, 20)
	rejected(t, shared(20, light(), lowBreaks()), 1, false, 20)
	rejected(t, shared(20, light(), highBreaks()), 1, true, 20)
	last := conf.Config{Frame: 20, Windows: []conf.Window{win(0, 10, 5)}, Parts: []conf.Part{{}, {}, {}, {}, {}, highBreaks()}}
	rejected(t, last, 5, true, 20)
	// Of both phases the low one, be it the later one to break.
	rejected(t, shared(20, bothBreak(), light()), 0, false, 20)
	rejected(t, shared(20, light(), bothBreak()), 1, false, 20)
	rejected(t, shared(20, lowFirst(), light()), 0, false, 5)
	// Of several partitions the first one, be it the later one to break, or in high mode.
	rejected(t, shared(20, lowBreaks(), lowFirst()), 0, false, 20)
	rejected(t, shared(20, lowFirst(), lowBreaks()), 0, false, 5)
	rejected(t, shared(20, highBreaks(), lowFirst()), 0, true, 20)
	two := conf.Config{Frame: 20, Windows: []conf.Window{win(0, 10, 2), win(10, 10, 3)}, Parts: []conf.Part{{}, {}, highBreaks(), lowFirst()}}
	rejected(t, two, 2, true, 20)
}

func TestP1102JudgeTellsTheLeastNumber(t *testing.T) {
	// It breaks at 10, and at each whole frame behind that.
	c := alone(10, 3, of(low(10, 10, 4)))
	for n := 10; n <= 200; n += 10 {
		if slack, ok := Slack(c, 0, n, false); slack != -n/10 || !ok {
			t.Errorf("the slack of %d is %d, %v", n, slack, ok)
		}
	}
	rejected(t, c, 0, false, 10)
	// At the smallest numbers that there may be: 0 of a high phase, 1 of a low one.
	rejected(t, alone(10, 10, of(high(10, 10, 10, 3, 4))), 0, true, 0)
	rejected(t, alone(1, 1, of(high(2, 2, 2, 1, 2))), 0, true, 0)
	rejected(t, alone(10, 10, of(high(10, 10, 10, 3, 3), high(20, 10, 5, 5, 6), high(50, 40, 40, 1, 2))), 0, true, 0)
	rejected(t, alone(10, 0, of(low(1, 1, 1))), 0, false, 1)
	rejected(t, alone(10, 9, of(low(1000, 1, 1))), 0, false, 1)
	rejected(t, alone(10, 10, of(low(10, 1, 1), low(20, 1, 1))), 0, false, 1)
	rejected(t, alone(10, 10, conf.Part{Servers: []conf.Server{{C: 1, T: 1}, {Refill: true, C: 1, T: 1}}}), 0, false, 1)
	rejected(t, alone(10, 10, of(high(10, 10, 9, 3, 8))), 0, true, 1)
	rejected(t, alone(10, 0, of(high(10, 10, 10, 3, 3))), 0, false, 10)
	// In a step that is not a task's first one.
	rejected(t, alone(1, 1, of(low(5, 5, 3), low(7, 7, 3))), 0, false, 35)
	// Late, and behind the round.
	rejected(t, late(), 0, false, 65280)
	rejected(t, behind(), 0, false, 199)
	rejected(t, alone(10, 3, conf.Part{Servers: []conf.Server{{Refill: true, C: 3, T: 10}}}), 0, false, 11)
}

// Where a high phase asks for less than all of a job, as some of it was done: of 10 - V ticks for 8 less 3.
func TestP1102JudgeOfWhatWasDone(t *testing.T) {
	for early := 3; early <= 5; early++ {
		admitted(t, alone(10, 10, of(high(10, 10, early, 3, 8))))
	}
	for early := 6; early <= 10; early++ {
		rejected(t, alone(10, 10, of(high(10, 10, early, 3, 8))), 0, true, 10-early)
	}
}

func TestP1102JudgeOfWindows(t *testing.T) {
	a := of(low(12, 12, 4))
	c := conf.Config{Frame: 12, Windows: []conf.Window{win(0, 1, 0), win(4, 2, 0), win(8, 1, 0)}, Parts: []conf.Part{a, {}}}
	admitted(t, c)
	c.Windows[1].Part = 1
	rejected(t, c, 0, false, 12)
	c.Windows = nil
	rejected(t, c, 0, false, 12)
	c.Windows = []conf.Window{}
	rejected(t, c, 0, false, 12)
	c.Windows = []conf.Window{win(0, 4, 0), win(4, 8, 1)}
	admitted(t, c)
	c.Margin = 1
	rejected(t, c, 0, false, 12)
	c.Windows[0].Len, c.Windows[1] = 5, win(5, 7, 1)
	admitted(t, c)
	// Windows far apart.
	c.Margin, c.Parts[0] = 0, of(low(12, 8, 4))
	rejected(t, c, 0, false, 8)
	c.Windows = []conf.Window{win(0, 2, 0), win(3, 2, 0), win(6, 2, 0), win(9, 2, 0)}
	admitted(t, c)
}

// Donees, acts and channels are for when it runs.
func TestP1102JudgeByTasksAndServersAlone(t *testing.T) {
	for _, start := range []func() conf.Config{func() conf.Config { return shared(20, light(), highBreaks()) }, func() conf.Config { return shared(20, light(), light()) }} {
		want, wanted := Judge(start())
		c := start()
		c.Parts[0].Donees, c.Parts[1].Donees = []int{1}, []int{0}
		c.Parts[0].Acts, c.Parts[1].Acts = [3]uint8{1, 2, 0}, [3]uint8{2, 2, 2}
		c.Chans = []conf.Channel{{Queue: true, From: 0, To: 1, Size: 3}, {From: 1, To: 0, Size: 1000}}
		checkJudge(t, c, want, wanted)
	}
}

func TestP1102JudgeIsAsByTrying(t *testing.T) {
	met := map[Verdict]int{}
	for _, c := range systems(t, 2500) {
		want, wanted := judgedOf(c)
		checkJudge(t, c, want, wanted)
		want.T = 0
		met[want]++
	}
	for _, p := range []int{0, 1, 2} {
		for _, high := range modes {
			if met[Verdict{Kind: Reject, Part: p, High: high}] == 0 {
				t.Errorf("no system was rejected for partition %d, high %v", p, high)
			}
		}
	}
	if met[Verdict{}] < 200 {
		t.Errorf("just %d systems were admitted", met[Verdict{}])
	}
}

// Of large bounds, and of the greatest frames.
func TestP1102JudgeOfLargeOnesIsAsByTrying(t *testing.T) {
	r := rand.New(rand.NewPCG(1, 11))
	periods := []int{250, 500, 1000, 125, 256, 512, 768, 960, 360, 720, 225, 243, 343, 625}
	for range 60 {
		c := conf.Config{Frame: []int{1, 5, 250, 256, 240, 251, 1 + r.IntN(256)}[r.IntN(7)], Parts: make([]conf.Part, 1+r.IntN(2))}
		c.Windows = drawnWindows(r, c.Frame, len(c.Parts))
		for p := range c.Parts {
			for range 1 + r.IntN(3) {
				c.Parts[p].Tasks = append(c.Parts[p].Tasks, drawnTask(r, periods[r.IntN(len(periods))], 3*len(c.Parts)))
			}
			for range r.IntN(2) {
				c.Parts[p].Servers = append(c.Parts[p].Servers, drawnServer(r, periods[r.IntN(len(periods))], len(c.Parts)))
			}
		}
		want, wanted := judgedOf(c)
		checkJudge(t, c, want, wanted)
	}
}

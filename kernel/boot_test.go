package kernel_test

import (
	"bytes"
	"math"
	"testing"

	"parclose/admit"
	"parclose/api"
	"parclose/conf"
	"parclose/kernel"
)

// starts: some that there may be, and some that there may not be.
var (
	rightStarts = []int{0, 1, 2, 1000, 1 << 32, maxTick - 1, maxTick}
	wrongStarts = []int{math.MinInt, math.MinInt + 1, -maxTick, -1000, -2, -1, maxTick + 1, maxTick + 2, math.MaxInt - 1, math.MaxInt}
)

// refusedSystem: one that may not be: its partition gives to itself.
func refusedSystem() conf.Config { return alone(conf.Part{Donees: []int{0}}) }

// crowded: a system that is rejected, in low mode, or in high mode.
func crowded(inHigh bool) conf.Config {
	c := pair()
	if inHigh {
		c.Parts[1].Tasks[0] = high(40, 30, 12, 3, 25)
	} else {
		c.Parts[1].Tasks[1] = low(40, 40, 30)
	}
	return c
}

// large: a system whose partition p has no bound.
func large(p int) conf.Config {
	c := pair()
	c.Parts[p].Tasks = []conf.Task{low(997, 997, 1), low(991, 991, 1)}
	return c
}

// fails holds Boot to an error, and to no Kernel beside it.
func fails(t *testing.T, what string, b []byte, start int, want api.Errno) {
	t.Helper()
	k, err := kernel.Boot(b, start)
	if k != nil || err != want {
		t.Errorf("Boot of %s at %d: %v, %d, not %d", what, start, k, err, want)
	}
}

// failsAtAll: the same, whatever the start is, as that is looked at last.
func failsAtAll(t *testing.T, what string, b []byte, want api.Errno) {
	t.Helper()
	for _, from := range append(append([]int(nil), rightStarts...), wrongStarts...) {
		fails(t, what, b, from, want)
	}
}

func TestP2502BytesWithAnErrorOfTheirForm(t *testing.T) {
	for _, c := range systems() {
		b := encoded(t, c)
		// Bytes that are missing, or left.
		for n := range b {
			fails(t, "bytes that end too soon", b[:n], 0, api.ErrForm)
		}
		failsAtAll(t, "bytes that end too soon", b[:len(b)-1], api.ErrForm)
		failsAtAll(t, "a byte more", append(bytes.Clone(b), 0), api.ErrForm)
		// Another Magic.
		for i := range 4 {
			other := bytes.Clone(b)
			other[i]++
			failsAtAll(t, "another Magic", other, api.ErrForm)
		}
	}
	failsAtAll(t, "no bytes", nil, api.ErrForm)
	failsAtAll(t, "no bytes", []byte{}, api.ErrForm)
}

func TestP2502BytesWithATruthThatIsNone(t *testing.T) {
	// The truth of a task, of a server, and of a channel: just there two images of these part.
	truths := func(hi, fills, queue bool) []byte {
		c := conf.Config{Frame: 1, Windows: []conf.Window{{Len: 1}}, Parts: []conf.Part{{}, {}}, Chans: []conf.Channel{{Queue: queue, From: 0, To: 1, Size: 1}}}
		c.Parts[0].Tasks = []conf.Task{{Hi: hi, T: 9, D: 9, V: 9, Lo: 1, Top: 1}}
		c.Parts[0].Servers = []conf.Server{{Refill: fills, C: 1, T: 9}}
		return encoded(t, c)
	}
	b := truths(false, false, false)
	for _, other := range [][]byte{truths(true, false, false), truths(false, true, false), truths(false, false, true)} {
		for i := range b {
			if b[i] == other[i] {
				continue
			}
			for _, n := range []byte{0, 1, 2, 3, 128, 255} {
				other[i] = n
				if n > 1 {
					failsAtAll(t, "a truth that is none", other, api.ErrForm)
				} else if k, err := kernel.Boot(other, 0); k == nil || err != api.OK {
					t.Errorf("Boot of a truth %d: %d", n, err)
				}
			}
		}
	}
}

func TestP2502TooManyBytes(t *testing.T) {
	b := append(encoded(t, pair()), make([]byte, maxImage+2)...)
	failsAtAll(t, "as many bytes as there may be", b[:maxImage], api.ErrForm)
	failsAtAll(t, "a byte too many", b[:maxImage+1], api.ErrSize)
	failsAtAll(t, "bytes of nothing", make([]byte, 1<<20), api.ErrSize)
}

// A reason of chapter 6, and what has it.
type reason struct {
	what string
	c    conf.Config
	want api.Errno
}

// changed: pair, with something in it that is another one.
func changed(change func(c *conf.Config)) conf.Config {
	c := pair()
	change(&c)
	return c
}

// reasons: of each kind why a system may not be.
func reasons() []reason {
	task := func(x conf.Task) func(c *conf.Config) { return func(c *conf.Config) { c.Parts[1].Tasks[1] = x } }
	server := func(x conf.Server) func(c *conf.Config) { return func(c *conf.Config) { c.Parts[0].Servers[1] = x } }
	window := func(x conf.Window) func(c *conf.Config) { return func(c *conf.Config) { c.Windows[1] = x } }
	channel := func(x conf.Channel) func(c *conf.Config) { return func(c *conf.Config) { c.Chans[3] = x } }
	donees := func(l ...int) func(c *conf.Config) { return func(c *conf.Config) { c.Parts[1].Donees = l } }
	return []reason{
		{"the zero system", conf.Config{}, api.ErrFrame},
		{"a frame of 0", changed(func(c *conf.Config) { c.Frame = 0 }), api.ErrFrame},
		{"a frame of 257", changed(func(c *conf.Config) { c.Frame = 257 }), api.ErrFrame},
		{"a margin of 9", changed(func(c *conf.Config) { c.Margin = 9 }), api.ErrFrame},
		{"no partitions", conf.Config{Frame: 1}, api.ErrArg},
		{"seven partitions", changed(func(c *conf.Config) { c.Parts = make([]conf.Part, 7) }), api.ErrArg},
		{"windows that overlap", changed(window(conf.Window{At: 4, Len: 5, Part: 1})), api.ErrWindow},
		{"a window without ticks", changed(window(conf.Window{At: 5, Len: 0, Part: 1})), api.ErrWindow},
		{"a window behind the frame", changed(window(conf.Window{At: 6, Len: 5, Part: 1})), api.ErrWindow},
		{"a window of no partition", changed(window(conf.Window{At: 5, Len: 5, Part: 2})), api.ErrWindow},
		{"33 windows", changed(func(c *conf.Config) { c.Frame, c.Windows = 64, windowsOf(33) }), api.ErrWindow},
		{"seven tasks", changed(func(c *conf.Config) { c.Parts[1].Tasks = tasksOf(7) }), api.ErrTask},
		{"a task of no period", changed(task(low(0, 0, 0))), api.ErrTask},
		{"a task of a period above 1000", changed(task(low(1001, 1001, 1))), api.ErrTask},
		{"a low task with V below D", changed(task(conf.Task{T: 9, D: 9, V: 8, Lo: 1, Top: 1})), api.ErrTask},
		{"a low task with Top above Lo", changed(task(conf.Task{T: 9, D: 9, V: 9, Lo: 1, Top: 2})), api.ErrTask},
		{"four servers", changed(func(c *conf.Config) { c.Parts[0].Servers = make([]conf.Server, 4) }), api.ErrServer},
		{"a server without ticks", changed(server(plainly(0, 9))), api.ErrServer},
		{"a server of more than all", changed(server(refilled(10, 9))), api.ErrServer},
		{"an act above Again", changed(func(c *conf.Config) { c.Parts[1].Acts = [3]uint8{0, 0, 3} }), api.ErrHealth},
		{"a donee that is none", changed(donees(2)), api.ErrDonee},
		{"a donee that is itself", changed(donees(1)), api.ErrDonee},
		{"a donee twice", changed(donees(0, 0)), api.ErrDonee},
		{"nine channels", changed(func(c *conf.Config) { c.Chans = append(c.Chans, append(pair().Chans, c.Chans[0])...) }), api.ErrChannel},
		{"a channel from none", changed(channel(conf.Channel{From: 2, To: 0, Size: 1})), api.ErrChannel},
		{"a channel to none", changed(channel(conf.Channel{From: 1, To: 2, Size: 1})), api.ErrChannel},
		{"a channel to itself", changed(channel(conf.Channel{From: 1, To: 1, Size: 1})), api.ErrChannel},
		{"a queue of 17", changed(channel(conf.Channel{Queue: true, From: 1, To: 0, Size: 17})), api.ErrChannel},
		{"a channel of no size", changed(channel(conf.Channel{From: 1, To: 0})), api.ErrChannel},
		{"a channel of 1001", changed(channel(conf.Channel{From: 1, To: 0, Size: 1001})), api.ErrChannel},
	}
}

func windowsOf(n int) []conf.Window {
	var l []conf.Window
	for i := range n {
		l = append(l, conf.Window{At: i, Len: 1})
	}
	return l
}

func tasksOf(n int) []conf.Task {
	var l []conf.Task
	for range n {
		l = append(l, low(1000, 1000, 1))
	}
	return l
}

func TestP2502SystemsThatMayNotBe(t *testing.T) {
	for _, x := range reasons() {
		failsAtAll(t, x.what, encoded(t, x.c), x.want)
	}
}

func TestP2502SystemsThatMayNotBeAheadOfTheirVerdict(t *testing.T) {
	// They would be rejected, or too large, if they might be.
	for _, x := range reasons() {
		if len(x.c.Parts) != 2 {
			continue
		}
		for _, l := range [][]conf.Task{{low(4, 4, 4), low(4, 4, 4)}, {low(997, 997, 1), low(991, 991, 1)}} {
			c := conf.Clone(x.c)
			c.Parts[0].Tasks = l
			failsAtAll(t, x.what, encoded(t, c), x.want)
		}
	}
}

func TestP2502SystemsThatAreRejected(t *testing.T) {
	for _, inHigh := range []bool{false, true} {
		c := crowded(inHigh)
		if v, err := admit.Judge(c); err != api.OK || v.Kind != admit.Reject || v.High != inHigh {
			t.Fatalf("the verdict: %v, %d", v, err)
		}
		failsAtAll(t, "one that is rejected", encoded(t, c), api.ErrReject)
	}
	// Without a window, without an open tick, and one tick short.
	for what, c := range map[string]conf.Config{
		"no window":     {Frame: 4, Parts: []conf.Part{{Tasks: []conf.Task{low(1000, 1000, 1)}}}},
		"margin alone":  {Frame: 4, Margin: 4, Windows: []conf.Window{{Len: 4}}, Parts: []conf.Part{{Servers: []conf.Server{plainly(1, 1000)}}}},
		"a tick short":  alone(conf.Part{Tasks: []conf.Task{low(4, 4, 3), low(8, 8, 3)}}),
		"of the second": {Frame: 10, Windows: []conf.Window{{Len: 9}, {At: 9, Len: 1, Part: 1}}, Parts: []conf.Part{{}, {Tasks: []conf.Task{low(10, 10, 2)}}}},
	} {
		failsAtAll(t, what, encoded(t, c), api.ErrReject)
	}
	if k, err := kernel.Boot(encoded(t, alone(conf.Part{Tasks: []conf.Task{low(4, 4, 3), low(8, 8, 2)}})), 0); k == nil || err != api.OK {
		t.Errorf("just all: %d", err)
	}
}

func TestP2502SystemsThatAreTooLarge(t *testing.T) {
	for p := range 2 {
		failsAtAll(t, "one that is too large", encoded(t, large(p)), api.ErrLarge)
		// Be it that another partition would be rejected.
		c := large(p)
		c.Parts[1-p].Tasks = []conf.Task{low(4, 4, 4)}
		failsAtAll(t, "one that is too large, and would be rejected", encoded(t, c), api.ErrLarge)
	}
}

func TestP2502Starts(t *testing.T) {
	for _, c := range systems() {
		b := encoded(t, c)
		for _, from := range wrongStarts {
			fails(t, "a system that boots", b, from, api.ErrRange)
		}
		for _, from := range rightStarts {
			x := newBoth(t, c, from)
			x.lookFar()
			for p := range c.Parts {
				if !x.k.Up(p) || x.k.High(p) || len(x.k.Log(p)) != 0 || len(x.k.Jobs(p)) != 0 {
					t.Errorf("at %d: up: %v, high: %v, Log: %v, Jobs: %v", from, x.k.Up(p), x.k.High(p), x.k.Log(p), x.k.Jobs(p))
				}
			}
			if n := x.k.Tick(); n != from {
				t.Errorf("Tick: %d, not %d", n, from)
			}
			x.steps(30)
			x.look()
			x.stop("starts")
		}
	}
}

// The periods of servers with Refill begin at start, and the frame at 0.
func TestP2502WhatBeginsAtStart(t *testing.T) {
	c := conf.Config{Frame: 7, Windows: []conf.Window{{At: 2, Len: 5}}, Parts: []conf.Part{{Servers: []conf.Server{refilled(2, 20)}}}}
	for from := range 40 {
		b := newBoth(t, c, from)
		var ran []int
		for range 100 {
			if told, _ := b.step(ask(0, 0, 1)); told.What.Server {
				ran = append(ran, (told.Tick-from)/20)
			}
		}
		// Two in each period, and no more.
		for i, period := range ran {
			if period != i/2 {
				t.Fatalf("from %d: in periods %v", from, ran)
			}
		}
		b.look()
		b.stop("at start")
	}
}

package gsched_test

import (
	"testing"

	"parclose/conf"
	"parclose/gsched"
)

// isNone holds a Sched that is none to its answers, whatever it is handed.
func isNone(t *testing.T, what string, s *gsched.Sched) {
	t.Helper()
	list := append(rows(4), make([]bool, 6), []bool{true, true, true, true, true, true}, make([]bool, 1000))
	for range 2 {
		for _, tick := range ticks {
			for _, ready := range list {
				if got := s.At(tick, ready...); got != nothing {
					t.Fatalf("%s: At(%d, %v): %v", what, tick, ready, got)
				}
			}
			for _, p := range partitions {
				if n, ok := s.Next(p, tick); n != 0 || ok {
					t.Errorf("%s: Next(%d, %d): %d, %v", what, p, tick, n, ok)
				}
			}
		}
		for _, p := range partitions {
			if l := s.Donees(p); len(l) != 0 {
				t.Errorf("%s: Donees(%d): %v", what, p, l)
			}
		}
	}
}

func TestP2401ANilSched(t *testing.T) {
	isNone(t, "a nil Sched", nil)
	isNone(t, "one of a system that may not be", gsched.New(conf.Config{}))
}

func TestP2401SchedsThatNewDidNotMake(t *testing.T) {
	var s gsched.Sched
	made := gsched.New(example())
	*made = gsched.Sched{}
	for what, s := range map[string]*gsched.Sched{"the zero Sched": &s, "a new Sched": new(gsched.Sched), "a literal": {}, "one that was made zero": made} {
		isNone(t, what, s)
	}
}

func TestP2402NewOfSystemsThatMayBe(t *testing.T) {
	for _, c := range systems() {
		newBoth(t, c)
	}
	for frame := 1; frame <= 256; frame++ {
		for margin := range 9 {
			newBoth(t, conf.Config{Frame: frame, Margin: margin, Windows: []conf.Window{{At: 0, Len: frame}}, Parts: make([]conf.Part, 1)})
		}
	}
	for parts := 1; parts <= 6; parts++ {
		b := newBoth(t, conf.Config{Frame: 10, Windows: []conf.Window{{At: 0, Len: 5, Part: parts - 1}}, Parts: make([]conf.Part, parts)})
		b.lookFar()
		b.stop("so many partitions")
	}
	for windows := range 33 {
		c := full()
		c.Windows = c.Windows[:windows]
		b := newBoth(t, c)
		b.look()
		b.stop("so many windows")
	}
}

func TestP2402NewOfEmptyLists(t *testing.T) {
	b := newBoth(t, conf.Config{Frame: 10, Windows: []conf.Window{}, Chans: []conf.Channel{}, Parts: []conf.Part{
		{Tasks: []conf.Task{}, Servers: []conf.Server{}, Donees: []int{}}, {},
	}})
	b.lookFar()
	b.stop("empty lists")
}

// wrongs: of each reason for which a system may not be, some; each changes the example.
func wrongs() map[string]func(c *conf.Config) {
	frame := func(n int) func(c *conf.Config) { return func(c *conf.Config) { c.Frame = n } }
	margin := func(n int) func(c *conf.Config) { return func(c *conf.Config) { c.Margin = n } }
	parts := func(n int) func(c *conf.Config) {
		return func(c *conf.Config) { c.Windows, c.Parts = nil, make([]conf.Part, n) }
	}
	window := func(i int, w conf.Window) func(c *conf.Config) { return func(c *conf.Config) { c.Windows[i] = w } }
	tasks := func(l ...conf.Task) func(c *conf.Config) { return func(c *conf.Config) { c.Parts[3].Tasks = l } }
	servers := func(l ...conf.Server) func(c *conf.Config) {
		return func(c *conf.Config) { c.Parts[3].Servers = l }
	}
	donees := func(p int, l ...int) func(c *conf.Config) { return func(c *conf.Config) { c.Parts[p].Donees = l } }
	channels := func(l ...conf.Channel) func(c *conf.Config) { return func(c *conf.Config) { c.Chans = l } }
	task, server, channel := conf.Task{T: 9, D: 9, V: 9, Lo: 1, Top: 1}, conf.Server{C: 1, T: 9}, conf.Channel{From: 0, To: 1, Size: 1}
	return map[string]func(c *conf.Config){
		"no frame":               frame(0),
		"a frame below 0":        frame(-20),
		"a frame of 257":         frame(257),
		"a frame of 2^32 and 20": frame(1<<32 + 20),
		"a margin below 0":       margin(-1),
		"a margin of 9":          margin(9),
		"no partitions":          parts(0),
		"7 partitions":           parts(7),
		"many partitions":        parts(1000),

		"a window ahead of the frame":      window(0, conf.Window{At: -1, Len: 5}),
		"a window in the one ahead":        window(1, conf.Window{At: 7, Len: 4, Part: 1}),
		"a window without ticks":           window(0, conf.Window{At: 3}),
		"a window of less than no ticks":   window(0, conf.Window{At: 3, Len: -1}),
		"a window that ends behind":        window(3, conf.Window{At: 17, Len: 4}),
		"a window of nobody":               window(0, conf.Window{At: 3, Len: 5, Part: -1}),
		"a window of one behind the last":  window(0, conf.Window{At: 3, Len: 5, Part: 4}),
		"a window that wraps round an int": window(3, conf.Window{At: 17, Len: 1<<63 - 1}),
		"33 windows": func(c *conf.Config) {
			c.Frame, c.Windows = 100, nil
			for i := range 33 {
				c.Windows = append(c.Windows, conf.Window{At: 3 * i, Len: 3})
			}
		},

		"a task that is not right":         tasks(conf.Task{}),
		"a second task that is not right":  tasks(task, conf.Task{T: 8, D: 9, V: 9, Lo: 1, Top: 1}),
		"7 tasks":                          tasks(task, task, task, task, task, task, task),
		"a server that is not right":       servers(conf.Server{}),
		"a server of more than its period": servers(server, conf.Server{C: 10, T: 9}),
		"4 servers":                        servers(server, server, server, server),
		"a first act that is none":         func(c *conf.Config) { c.Parts[0].Acts[0] = 3 },
		"a last act that is none":          func(c *conf.Config) { c.Parts[3].Acts[2] = 255 },

		"a donee to itself":            donees(0, 1, 0),
		"a donee twice":                donees(0, 1, 2, 1),
		"a donee below 0":              donees(3, -1),
		"a donee behind the last":      donees(3, 4),
		"more donees than there are":   donees(0, 1, 2, 3, 1, 2, 3),
		"a last donee to itself":       donees(3, 0, 1, 2, 3),
		"a channel from nobody":        channels(conf.Channel{From: -1, To: 1, Size: 1}),
		"a channel to nobody":          channels(channel, conf.Channel{From: 0, To: 4, Size: 1}),
		"a channel to itself":          channels(conf.Channel{From: 1, To: 1, Size: 1}),
		"a channel of no size":         channels(conf.Channel{From: 0, To: 1}),
		"a queue of no size":           channels(conf.Channel{Queue: true, From: 0, To: 1}),
		"a queue of 17":                channels(conf.Channel{Queue: true, From: 0, To: 1, Size: 17}),
		"a channel that is fresh 1001": channels(conf.Channel{From: 0, To: 1, Size: 1001}),
		"9 channels":                   channels(channel, channel, channel, channel, channel, channel, channel, channel, channel),
		"the zero system":              func(c *conf.Config) { *c = conf.Config{} },
	}
}

func TestP2402NewOfSystemsThatMayNotBe(t *testing.T) {
	if gsched.New(example()) == nil {
		t.Fatal("the example: nil")
	}
	for what, change := range wrongs() {
		c := example()
		change(&c)
		if s := gsched.New(c); s != nil {
			t.Errorf("%s: not nil", what)
		}
	}
}

func TestP2402NewAtItsLimits(t *testing.T) {
	// Each of these is the last one that may be, next to one of those that may not.
	task, server, channel := conf.Task{T: 9, D: 9, V: 9, Lo: 1, Top: 1}, conf.Server{C: 9, T: 9}, conf.Channel{Queue: true, From: 0, To: 1, Size: 16}
	c := example()
	c.Margin = 8
	c.Windows[3].Len = 3
	c.Parts[3].Tasks = []conf.Task{task, task, task, task, task, task}
	c.Parts[3].Servers = []conf.Server{server, server, server}
	c.Parts[3].Donees = []int{2, 0, 1}
	c.Parts[0].Acts = [3]uint8{2, 2, 2}
	c.Chans = []conf.Channel{channel, channel, channel, channel, channel, channel, channel, {From: 3, To: 0, Size: 1000}}
	b := newBoth(t, c)
	b.lookFar()
	b.stop("at its limits")
}

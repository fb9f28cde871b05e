package valid

import (
	"fmt"
	"math"
	"reflect"
	"slices"
	"testing"

	"parclose/api"
	"parclose/conf"
)

func TestP602TheExample(t *testing.T) {
	checks(t, "a frame of 0", conf.Config{}, told{api.ErrFrame, 0})
	c := small()
	c.Frame = 0
	checks(t, "a system with a frame of 0", c, told{api.ErrFrame, 0})
}

func TestP602TheNumbersOfItsLimits(t *testing.T) {
	if api.MaxFrame != 256 || api.MaxMargin != 8 || api.MaxParts != 6 || api.MaxWindows != 32 || api.MaxTasks != 6 || api.MaxServers != 3 {
		t.Error("numbers that the document gives are other ones")
	}
	if api.MaxChans != 8 || api.MaxDepth != 16 || api.MaxPeriod != 1000 {
		t.Error("numbers that the document gives are other ones")
	}
}

func TestP602SystemsThatMayBe(t *testing.T) {
	for _, c := range []conf.Config{small(), full(), {Frame: 1, Parts: make([]conf.Part, 1)}} {
		for range 2 {
			checks(t, "one that may be", c, told{api.OK, 0})
		}
	}
	empty := conf.Config{Frame: 1, Windows: []conf.Window{}, Chans: []conf.Channel{}, Parts: []conf.Part{{Tasks: []conf.Task{}, Servers: []conf.Server{}, Donees: []int{}}}}
	checks(t, "empty lists", empty, told{api.OK, 0})
	empty.Parts = []conf.Part{}
	checks(t, "an empty list of partitions", empty, told{api.ErrArg, 0})
}

func TestP602EachFrameWithEachMargin(t *testing.T) {
	for frame := -3; frame < 300; frame++ {
		for margin := -3; margin < 20; margin++ {
			want := told{api.ErrFrame, 0}
			if frame >= 1 && frame <= 256 && margin >= 0 && margin <= 8 {
				want = told{api.OK, 0}
			}
			checks(t, fmt.Sprintf("frame %d, margin %d", frame, margin), conf.Config{Frame: frame, Margin: margin, Parts: make([]conf.Part, 1)}, want)
		}
	}
}

func TestP602HowManyPartitions(t *testing.T) {
	for n, want := range []told{{api.ErrArg, 0}, {api.OK, 0}, {api.OK, 0}, {api.OK, 0}, {api.OK, 0}, {api.OK, 0}, {api.OK, 0}, {api.ErrArg, 0}, {api.ErrArg, 0}} {
		c := conf.Config{Frame: 10, Parts: make([]conf.Part, n)}
		checks(t, fmt.Sprint(n, " partitions"), c, want)
		if n > 6 {
			// All of them are looked at later on, if at all.
			c.Windows = []conf.Window{{At: 0, Len: 1, Part: 6}}
			c.Parts[1].Tasks = make([]conf.Task, 1)
			checks(t, fmt.Sprint(n, " partitions, and others wrong"), c, want)
		}
	}
}

// behindTwo: a system of frame 20 with windows from 2 to 5 of 0, and from 6 to 9 of 1, and one more.
func behindTwo(w conf.Window) conf.Config {
	return conf.Config{Frame: 20, Windows: []conf.Window{{At: 2, Len: 4, Part: 0}, {At: 6, Len: 4, Part: 1}, w}, Parts: make([]conf.Part, 3)}
}

func TestP602AWindowBehindOthers(t *testing.T) {
	rows := []struct {
		what          string
		at, len, part int
		want          bool
	}{
		{"touches the one ahead", 10, 2, 2, true},
		{"touches it, and is of the same", 10, 2, 1, true},
		{"a tick behind the one ahead", 11, 2, 2, true},
		{"a tick into the one ahead", 9, 2, 2, false},
		{"just the one ahead", 6, 4, 1, false},
		{"in the one ahead", 7, 1, 2, false},
		{"over the one ahead", 5, 6, 2, false},
		{"ahead of both", 0, 2, 2, false},
		{"ahead of both, of one tick", 0, 1, 2, false},
		{"one tick", 10, 1, 2, true},
		{"no tick", 10, 0, 2, false},
		{"no tick, later", 15, 0, 2, false},
		{"less than no tick", 10, -1, 2, false},
		{"ends at the frame's end", 10, 10, 2, true},
		{"the last tick", 19, 1, 2, true},
		{"ends a tick behind it", 10, 11, 2, false},
		{"the last tick and one more", 19, 2, 2, false},
		{"begins behind the frame", 20, 1, 2, false},
		{"no tick at its end", 20, 0, 2, false},
		{"of the first partition", 10, 2, 0, true},
		{"of the last partition", 10, 2, 2, true},
		{"of one behind the last", 10, 2, 3, false},
		{"of the greatest that there may be", 10, 2, 5, false},
		{"of one below 0", 10, 2, -1, false},
	}
	for _, r := range rows {
		want := told{api.ErrWindow, 2}
		if r.want {
			want = told{api.OK, 0}
		}
		checks(t, r.what, behindTwo(conf.Window{At: r.at, Len: r.len, Part: r.part}), want)
	}
}

func TestP602TheFirstWindow(t *testing.T) {
	for at := -3; at < 14; at++ {
		for n := -3; n < 16; n++ {
			want := told{api.ErrWindow, 0}
			if at >= 0 && n >= 1 && at+n <= 10 {
				want = told{api.OK, 0}
			}
			c := conf.Config{Frame: 10, Windows: []conf.Window{{At: at, Len: n}}, Parts: make([]conf.Part, 1)}
			checks(t, fmt.Sprint("a window of ", n, " from ", at, " on"), c, want)
		}
	}
}

func TestP602WindowsInAnotherOrder(t *testing.T) {
	c := small()
	slices.Reverse(c.Windows)
	checks(t, "the last one first", c, told{api.ErrWindow, 1})
	c = small()
	c.Windows[0], c.Windows[1] = c.Windows[1], c.Windows[0]
	checks(t, "the second one first", c, told{api.ErrWindow, 1})
	c = small()
	c.Windows[1], c.Windows[2] = c.Windows[2], c.Windows[1]
	checks(t, "the last one second", c, told{api.ErrWindow, 2})
}

func TestP602NoSumWraps(t *testing.T) {
	for _, at := range edges {
		for _, n := range edges {
			what := fmt.Sprint("a window of ", n, " from ", at, " on")
			w := conf.Window{At: at, Len: n}
			c := conf.Config{Frame: 256, Windows: []conf.Window{w}, Parts: make([]conf.Part, 1)}
			checks(t, what, c, wanted(c))
			c.Windows = []conf.Window{w, {At: 255, Len: 1}}
			checks(t, what+", ahead of another one", c, wanted(c))
			c.Windows = []conf.Window{{At: 0, Len: 1}, w}
			checks(t, what+", behind another one", c, wanted(c))
			// Nothing of the windows is looked at in such a frame.
			for _, frame := range []int{math.MinInt, math.MaxInt} {
				c.Frame = frame
				checks(t, what+", in no frame", c, told{api.ErrFrame, 0})
			}
		}
	}
}

func TestP602EachNumberAtTheEdges(t *testing.T) {
	for _, make := range []func() conf.Config{small, full} {
		base := make()
		all := 0
		fields(reflect.ValueOf(&base).Elem(), "", func(string, reflect.Value) { all++ })
		for n := range all {
			for _, edge := range edges {
				c := make()
				v, at := field(&c, n)
				switch v.Kind() {
				case reflect.Bool:
					v.SetBool(edge%2 == 0)
				case reflect.Uint8:
					v.SetUint(uint64(edge) % 256)
				default:
					v.SetInt(int64(edge))
				}
				checks(t, fmt.Sprint(at, " is ", edge), c, wanted(c))
			}
		}
	}
}

func TestP602HowManyOfEach(t *testing.T) {
	rows := []struct {
		what string
		do   func(c *conf.Config)
		want told
	}{
		{"one window too many", func(c *conf.Config) { c.Windows = append(c.Windows, conf.Window{At: 256, Len: 1}) }, told{api.ErrWindow, 32}},
		{"one too many, the first is wrong", func(c *conf.Config) { c.Windows = append(c.Windows, conf.Window{}); c.Windows[0].Len = 0 }, told{api.ErrWindow, 32}},
		{"one too many, the last is wrong", func(c *conf.Config) { c.Windows = append(c.Windows, conf.Window{}); c.Windows[31].Part = 6 }, told{api.ErrWindow, 32}},
		{"one too many that would go", func(c *conf.Config) {
			c.Windows[31].Len = 4
			c.Windows = append(c.Windows, conf.Window{At: 252, Len: 4})
		}, told{api.ErrWindow, 32}},
		{"many windows too many", func(c *conf.Config) { c.Windows = make([]conf.Window, 1<<20) }, told{api.ErrWindow, 32}},
		{"many partitions too many", func(c *conf.Config) { c.Parts = make([]conf.Part, 1<<16) }, told{api.ErrArg, 0}},
		{"one task too many", func(c *conf.Config) { c.Parts[3].Tasks = append(c.Parts[3].Tasks, c.Parts[3].Tasks[0]) }, told{api.ErrTask, 3}},
		{"many tasks too many", func(c *conf.Config) { c.Parts[0].Tasks = make([]conf.Task, 1<<20) }, told{api.ErrTask, 0}},
		{"one server too many", func(c *conf.Config) { c.Parts[5].Servers = append(c.Parts[5].Servers, conf.Server{C: 1, T: 1}) }, told{api.ErrServer, 5}},
		{"one donee too many", func(c *conf.Config) { c.Parts[4].Donees = append(c.Parts[4].Donees, 6) }, told{api.ErrDonee, 4}},
		{"one donee twice", func(c *conf.Config) { c.Parts[4].Donees = append(c.Parts[4].Donees, 0) }, told{api.ErrDonee, 4}},
		{"many donees too many", func(c *conf.Config) { c.Parts[1].Donees = make([]int, 1<<20) }, told{api.ErrDonee, 1}},
		{"one channel too many", func(c *conf.Config) { c.Chans = append(c.Chans, c.Chans[0]) }, told{api.ErrChannel, 8}},
		{"one too many, that is wrong", func(c *conf.Config) { c.Chans = append(c.Chans, conf.Channel{}) }, told{api.ErrChannel, 8}},
		{"one too many, the first is wrong", func(c *conf.Config) { c.Chans = append(c.Chans, c.Chans[0]); c.Chans[0].Size = 0 }, told{api.ErrChannel, 8}},
		{"one too many, the last is wrong", func(c *conf.Config) { c.Chans = append(c.Chans, c.Chans[0]); c.Chans[7].To = 6 }, told{api.ErrChannel, 8}},
		{"many channels too many", func(c *conf.Config) { c.Chans = make([]conf.Channel, 1<<20) }, told{api.ErrChannel, 8}},
		{"too many of all", func(c *conf.Config) {
			c.Windows = make([]conf.Window, 33)
			c.Chans = make([]conf.Channel, 9)
			c.Parts = append(c.Parts, conf.Part{})
		}, told{api.ErrArg, 0}},
		{"too many channels, and a donee is wrong", func(c *conf.Config) { c.Chans = make([]conf.Channel, 9); c.Parts[5].Donees[0] = 5 }, told{api.ErrDonee, 5}},
		{"too many windows and channels", func(c *conf.Config) { c.Windows = make([]conf.Window, 33); c.Chans = make([]conf.Channel, 9) }, told{api.ErrWindow, 32}},
	}
	for _, r := range rows {
		c := full()
		r.do(&c)
		checks(t, r.what, c, r.want)
	}
}

func TestP602Donees(t *testing.T) {
	rows := []struct {
		l    []int
		want bool
	}{
		{nil, true}, {[]int{}, true},
		{[]int{0}, true}, {[]int{2}, true}, {[]int{3}, true},
		{[]int{0, 2, 3}, true}, {[]int{3, 0, 2}, true},
		{[]int{1}, false}, {[]int{0, 1}, false}, {[]int{0, 2, 3, 1}, false},
		{[]int{4}, false}, {[]int{0, 4}, false}, {[]int{-1}, false}, {[]int{2, -1}, false},
		{[]int{0, 0}, false}, {[]int{0, 2, 0}, false}, {[]int{0, 2, 3, 3}, false},
		{[]int{math.MinInt}, false}, {[]int{math.MaxInt}, false}, {[]int{1 << 32}, false},
	}
	for _, r := range rows {
		c := conf.Config{Frame: 10, Parts: make([]conf.Part, 4)}
		c.Parts[1].Donees = r.l
		want := told{api.ErrDonee, 1}
		if r.want {
			want = told{api.OK, 0}
		}
		checks(t, fmt.Sprint("the donees ", r.l), c, want)
	}
}

func TestP602ChannelsFromAndTo(t *testing.T) {
	for from := -2; from < 8; from++ {
		for to := -2; to < 8; to++ {
			for _, queue := range []bool{false, true} {
				want := told{api.ErrChannel, 0}
				if from >= 0 && from < 4 && to >= 0 && to < 4 && from != to {
					want = told{api.OK, 0}
				}
				c := conf.Config{Frame: 10, Parts: make([]conf.Part, 4), Chans: []conf.Channel{{Queue: queue, From: from, To: to, Size: 1}}}
				checks(t, fmt.Sprint("a channel from ", from, " to ", to), c, want)
			}
		}
	}
}

func TestP602SizesOfChannels(t *testing.T) {
	sizes := append([]int{}, edges...)
	for n := -3; n < 1100; n++ {
		sizes = append(sizes, n)
	}
	for _, size := range sizes {
		for _, queue := range []bool{false, true} {
			want := told{api.ErrChannel, 1}
			if size >= 1 && (size <= 16 || !queue && size <= 1000) {
				want = told{api.OK, 0}
			}
			c := conf.Config{Frame: 10, Parts: make([]conf.Part, 2), Chans: []conf.Channel{{From: 1, To: 0, Size: 1}, {Queue: queue, From: 0, To: 1, Size: size}}}
			checks(t, fmt.Sprint("a channel of ", size, ", a queue: ", queue), c, want)
		}
	}
}

func TestP602ManySystems(t *testing.T) {
	seen := map[api.Errno]int{}
	for i, c := range systems() {
		want := wanted(c)
		seen[want.err]++
		checks(t, fmt.Sprint("drawn system ", i), c, want)
	}
	for _, err := range []api.Errno{api.OK, api.ErrFrame, api.ErrWindow, api.ErrTask, api.ErrServer, api.ErrDonee, api.ErrChannel, api.ErrHealth} {
		if seen[err] < 20 {
			t.Errorf("error %d came %d times", err, seen[err])
		}
	}
}

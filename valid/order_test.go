package valid

import (
	"fmt"
	"math"
	"testing"

	"parclose/api"
	"parclose/conf"
)

// fault: one thing that is wrong with a full system, and what is told of it.
type fault struct {
	what string
	do   func(c *conf.Config)
	want told
}

// group: faults of one error at one thing. Those of a group that is ahead of another one are told first.
type group []fault

func framesFaults() group {
	var l group
	for _, n := range []int{math.MinInt, -1, 0, 257, math.MaxInt} {
		l = append(l, fault{fmt.Sprint("Frame ", n), func(c *conf.Config) { c.Frame = n }, told{api.ErrFrame, 0}})
	}
	for _, n := range []int{math.MinInt, -1, 9, math.MaxInt} {
		l = append(l, fault{fmt.Sprint("Margin ", n), func(c *conf.Config) { c.Margin = n }, told{api.ErrFrame, 0}})
	}
	return l
}

func countsFaults() group {
	return group{
		{"no partitions", func(c *conf.Config) { c.Parts = nil }, told{api.ErrArg, 0}},
		{"seven partitions", func(c *conf.Config) { c.Parts = append(c.Parts, conf.Part{}) }, told{api.ErrArg, 0}},
	}
}

func windowFaults(i int) group {
	var l group
	add := func(what string, do func(w *conf.Window)) {
		l = append(l, fault{fmt.Sprint("window ", i, what), func(c *conf.Config) { do(&c.Windows[i]) }, told{api.ErrWindow, i}})
	}
	add(" a tick earlier", func(w *conf.Window) { w.At-- })
	add(" from the least int on", func(w *conf.Window) { w.At = math.MinInt })
	add(" from the greatest int on", func(w *conf.Window) { w.At = math.MaxInt })
	add(" without ticks", func(w *conf.Window) { w.Len = 0 })
	add(" of one tick less than none", func(w *conf.Window) { w.Len = -1 })
	add(" a tick behind the frame", func(w *conf.Window) { w.Len = 257 - w.At })
	add(" as long as may be", func(w *conf.Window) { w.Len = math.MaxInt })
	add(" of -1", func(w *conf.Window) { w.Part = -1 })
	add(" of 6", func(w *conf.Window) { w.Part = 6 })
	return l
}

// partFaults: by their errors, the one that is told first first.
func partFaults(p int) []group {
	var tasks, servers, acts, donees group
	add := func(l *group, err api.Errno, what string, do func(a *conf.Part)) {
		*l = append(*l, fault{fmt.Sprint("partition ", p, what), func(c *conf.Config) { do(&c.Parts[p]) }, told{err, p}})
	}
	add(&tasks, api.ErrTask, " has seven tasks", func(a *conf.Part) { a.Tasks = append(a.Tasks, a.Tasks[0]) })
	for _, i := range []int{0, 3, 5} {
		add(&tasks, api.ErrTask, fmt.Sprint(": T of task ", i), func(a *conf.Part) { a.Tasks[i].T = 1001 })
		add(&tasks, api.ErrTask, fmt.Sprint(": D of task ", i), func(a *conf.Part) { a.Tasks[i].D = 101 })
		add(&tasks, api.ErrTask, fmt.Sprint(": V of task ", i), func(a *conf.Part) { a.Tasks[i].V = 2 })
		add(&tasks, api.ErrTask, fmt.Sprint(": Lo of task ", i), func(a *conf.Part) { a.Tasks[i].Lo = 0 })
		add(&tasks, api.ErrTask, fmt.Sprint(": Top of task ", i), func(a *conf.Part) { a.Tasks[i].Top = 1 })
	}
	add(&servers, api.ErrServer, " has four servers", func(a *conf.Part) { a.Servers = append(a.Servers, a.Servers[0]) })
	for i := range 3 {
		add(&servers, api.ErrServer, fmt.Sprint(": C of server ", i), func(a *conf.Part) { a.Servers[i].C = 0 })
		add(&servers, api.ErrServer, fmt.Sprint(": T of server ", i), func(a *conf.Part) { a.Servers[i].T = 1 })
		add(&acts, api.ErrHealth, fmt.Sprint(": act ", i), func(a *conf.Part) { a.Acts[i] = 3 })
	}
	for _, i := range []int{0, 2, 4} {
		add(&donees, api.ErrDonee, fmt.Sprint(": itself as donee ", i), func(a *conf.Part) { a.Donees[i] = p })
		add(&donees, api.ErrDonee, fmt.Sprint(": 6 as donee ", i), func(a *conf.Part) { a.Donees[i] = 6 })
		add(&donees, api.ErrDonee, fmt.Sprint(": -1 as donee ", i), func(a *conf.Part) { a.Donees[i] = -1 })
		add(&donees, api.ErrDonee, fmt.Sprint(": twice as donee ", i), func(a *conf.Part) { a.Donees[i] = a.Donees[(i+1)%5] })
	}
	return []group{tasks, servers, acts, donees}
}

func channelFaults(i int) group {
	var l group
	add := func(what string, do func(x *conf.Channel)) {
		l = append(l, fault{fmt.Sprint("channel ", i, what), func(c *conf.Config) { do(&c.Chans[i]) }, told{api.ErrChannel, i}})
	}
	add(" from -1", func(x *conf.Channel) { x.From = -1 })
	add(" from 6", func(x *conf.Channel) { x.From = 6 })
	add(" to -1", func(x *conf.Channel) { x.To = -1 })
	add(" to 6", func(x *conf.Channel) { x.To = 6 })
	add(" to where it is from", func(x *conf.Channel) { x.To = x.From })
	add(" of none", func(x *conf.Channel) { x.Size = 0 })
	add(" of too many", func(x *conf.Channel) { x.Queue, x.Size = true, 17 })
	add(" fresh for too long", func(x *conf.Channel) { x.Queue, x.Size = false, 1001 })
	return l
}

// groups: all, in the chapter's order.
func groups() []group {
	l := []group{framesFaults(), countsFaults()}
	l = append(l, group{{"33 windows", func(c *conf.Config) { c.Windows = append(c.Windows, conf.Window{}) }, told{api.ErrWindow, 32}}})
	for _, i := range []int{0, 1, 2, 17, 30, 31} {
		l = append(l, windowFaults(i))
	}
	for p := range 6 {
		l = append(l, partFaults(p)...)
	}
	l = append(l, group{{"nine channels", func(c *conf.Config) { c.Chans = append(c.Chans, conf.Channel{}) }, told{api.ErrChannel, 8}}})
	for i := range 8 {
		l = append(l, channelFaults(i))
	}
	return l
}

func TestP602EachErrorAlone(t *testing.T) {
	for _, g := range groups() {
		for _, f := range g {
			c := full()
			f.do(&c)
			checks(t, f.what, c, f.want)
		}
	}
}

func TestP602OfTwoErrorsTheFirst(t *testing.T) {
	l := groups()
	for i, ahead := range l {
		for _, later := range l[i+1:] {
			for _, a := range ahead {
				for _, b := range later {
					c := full()
					// The later one first, as the one that is ahead may take away its thing.
					b.do(&c)
					a.do(&c)
					checks(t, a.what+", "+b.what, c, a.want)
				}
			}
		}
	}
}

func TestP602OfAllErrorsTheFirst(t *testing.T) {
	l := groups()
	c := full()
	for i := len(l) - 1; i >= 0; i-- {
		f := l[i][len(l[i])-1]
		f.do(&c)
		checks(t, "from "+f.what+" on, all", c, f.want)
	}
}

package valid

import (
	"fmt"
	"math"
	"math/big"
	"math/rand/v2"
	"reflect"
	"slices"
	"testing"

	"parclose/api"
	"parclose/conf"
)

// edges: numbers about which an answer may turn, or an int wrap round.
var edges = []int{
	math.MinInt, math.MinInt + 1, math.MinInt + 256, -1 << 62, -1 << 32, -256, -8, -2, -1,
	0, 1, 2, 3, 5, 6, 7, 8, 9, 15, 16, 17, 255, 256, 257, 999, 1000, 1001, 1 << 32, 1<<32 + 1, 1 << 62, math.MaxInt - 256, math.MaxInt - 1, math.MaxInt,
}

// told: what Check answers.
type told struct {
	err api.Errno
	at  int
}

// wrongs: all that the chapter finds wrong, in its order; worked out without the program, and without a bound.
func wrongs(c conf.Config) []told {
	var l []told
	add := func(wrong bool, err api.Errno, at int) {
		if wrong {
			l = append(l, told{err, at})
		}
	}
	add(c.Frame < 1 || c.Frame > 256 || c.Margin < 0 || c.Margin > 8, api.ErrFrame, 0)
	add(len(c.Parts) < 1 || len(c.Parts) > 6, api.ErrArg, 0)
	add(len(c.Windows) > 32, api.ErrWindow, 32)
	end := big.NewInt(0)
	for i, w := range c.Windows {
		at := big.NewInt(int64(w.At))
		ahead := at.Cmp(end) < 0
		end = at.Add(at, big.NewInt(int64(w.Len)))
		behind := end.Cmp(big.NewInt(int64(c.Frame))) > 0
		add(ahead || behind || w.Len < 1 || isNone(c, w.Part), api.ErrWindow, i)
	}
	for p, a := range c.Parts {
		add(len(a.Tasks) > 6 || slices.ContainsFunc(a.Tasks, wrongTask), api.ErrTask, p)
		add(len(a.Servers) > 3 || slices.ContainsFunc(a.Servers, wrongServer), api.ErrServer, p)
		add(a.Acts[0] > 2 || a.Acts[1] > 2 || a.Acts[2] > 2, api.ErrHealth, p)
		for i, d := range a.Donees {
			add(d == p || isNone(c, d) || slices.Contains(a.Donees[:i], d), api.ErrDonee, p)
		}
	}
	add(len(c.Chans) > 8, api.ErrChannel, 8)
	for i, x := range c.Chans {
		most := 1000
		if x.Queue {
			most = 16
		}
		add(isNone(c, x.From) || isNone(c, x.To) || x.From == x.To || x.Size < 1 || x.Size > most, api.ErrChannel, i)
	}
	return l
}

func isNone(c conf.Config, p int) bool { return p < 0 || p > len(c.Parts)-1 }

func wrongTask(k conf.Task) bool {
	inOrder := 1 <= k.Lo && k.Lo <= k.V && k.V <= k.D && k.D <= k.T && k.T <= 1000
	top := k.Lo <= k.Top && k.Top <= k.D
	low := k.V == k.D && k.Top == k.Lo
	return !inOrder || !top || !k.Hi && !low
}

func wrongServer(s conf.Server) bool { return s.C < 1 || s.C > s.T || s.T > 1000 }

// wanted: what Check is to answer.
func wanted(c conf.Config) told {
	if l := wrongs(c); len(l) > 0 {
		return l[0]
	}
	return told{api.OK, 0}
}

// checks holds Check of a system against an answer.
func checks(t *testing.T, what string, c conf.Config, want told) {
	t.Helper()
	if err, at := Check(c); err != want.err || at != want.at {
		t.Errorf("%s: error %d at %d, not %d at %d", what, err, at, want.err, want.at)
	}
}

// small: a system that may be, with gaps, made anew each time.
func small() conf.Config {
	return conf.Config{
		Frame: 60, Margin: 2,
		Windows: []conf.Window{{At: 3, Len: 10, Part: 1}, {At: 13, Len: 7, Part: 0}, {At: 30, Len: 30, Part: 2}},
		Parts: []conf.Part{
			{
				Tasks:   []conf.Task{{Hi: true, T: 20, D: 15, V: 8, Lo: 3, Top: 6}, {T: 30, D: 25, V: 25, Lo: 4, Top: 4}},
				Servers: []conf.Server{{Refill: true, C: 2, T: 10}, {C: 3, T: 11}},
				Donees:  []int{2, 1},
				Acts:    [3]uint8{0, 1, 2},
			},
			{
				Tasks:   []conf.Task{{Hi: true, T: 1000, D: 1000, V: 1, Lo: 1, Top: 1000}},
				Servers: []conf.Server{{C: 1000, T: 1000}},
				Donees:  []int{0},
				Acts:    [3]uint8{2, 2, 2},
			},
			{},
		},
		Chans: []conf.Channel{{Queue: true, From: 2, To: 1, Size: 16}, {From: 1, To: 0, Size: 1000}},
	}
}

// full: a system that may be, with as many of all things as there may be, made anew each time.
func full() conf.Config {
	c := conf.Config{Frame: 256, Margin: 8}
	for i := range 32 {
		c.Windows = append(c.Windows, conf.Window{At: 8 * i, Len: 8, Part: 5 - i%6})
	}
	for p := range 6 {
		a := conf.Part{Acts: [3]uint8{2, 1, uint8(p % 3)}}
		for i := range 3 {
			a.Tasks = append(a.Tasks, conf.Task{Hi: true, T: 100, D: 90, V: 50, Lo: 5 + i, Top: 20})
			a.Tasks = append(a.Tasks, conf.Task{T: 100, D: 90, V: 90, Lo: 5 + i, Top: 5 + i})
			a.Servers = append(a.Servers, conf.Server{Refill: i == 1, C: 2, T: 10})
		}
		for q := range 6 {
			if q != p {
				a.Donees = append(a.Donees, q)
			}
		}
		c.Parts = append(c.Parts, a)
	}
	for i := range 8 {
		c.Chans = append(c.Chans, conf.Channel{Queue: i%2 == 0, From: i % 6, To: (i + 1) % 6, Size: 1 + i})
	}
	return c
}

// fields goes through all numbers and truths of a system, with their places.
func fields(v reflect.Value, path string, do func(path string, v reflect.Value)) {
	switch v.Kind() {
	case reflect.Struct:
		for i := range v.NumField() {
			fields(v.Field(i), path+"."+v.Type().Field(i).Name, do)
		}
	case reflect.Slice, reflect.Array:
		for i := range v.Len() {
			fields(v.Index(i), fmt.Sprint(path, "[", i, "]"), do)
		}
	default:
		do(path, v)
	}
}

// field: the nth of them in a system, or none; and its place.
func field(c *conf.Config, n int) (found reflect.Value, at string) {
	fields(reflect.ValueOf(c).Elem(), "", func(path string, v reflect.Value) {
		if n == 0 {
			found, at = v, path
		}
		n--
	})
	return found, at
}

// drawnTask, drawnPart, drawn: such as may be, by a rule.
func drawnTask(r *rand.Rand) conf.Task {
	k := conf.Task{Hi: r.IntN(2) == 0, T: 1 + r.IntN(1000)}
	k.D = 1 + r.IntN(k.T)
	k.V = k.D
	if k.Hi {
		k.V = 1 + r.IntN(k.D)
	}
	k.Lo = 1 + r.IntN(k.V)
	k.Top = k.Lo
	if k.Hi {
		k.Top += r.IntN(k.D - k.Lo + 1)
	}
	return k
}

func drawnPart(r *rand.Rand, p, n int) conf.Part {
	a := conf.Part{Acts: [3]uint8{uint8(r.IntN(3)), uint8(r.IntN(3)), uint8(r.IntN(3))}}
	for range r.IntN(7) {
		a.Tasks = append(a.Tasks, drawnTask(r))
	}
	for range r.IntN(4) {
		most := 1 + r.IntN(1000)
		a.Servers = append(a.Servers, conf.Server{Refill: r.IntN(2) == 0, C: 1 + r.IntN(most), T: most})
	}
	for _, q := range r.Perm(n) {
		if q != p && r.IntN(2) == 0 {
			a.Donees = append(a.Donees, q)
		}
	}
	return a
}

func drawn(r *rand.Rand) conf.Config {
	c := conf.Config{Frame: 1 + r.IntN([]int{3, 40, 256}[r.IntN(3)]), Margin: r.IntN(9)}
	n := 1 + r.IntN(6)
	for p := range n {
		c.Parts = append(c.Parts, drawnPart(r, p, n))
	}
	gap := 1 + r.IntN(2)*r.IntN(5)
	for end := 0; len(c.Windows) < 32; {
		w := conf.Window{At: end + r.IntN(gap), Len: 1 + r.IntN(12), Part: r.IntN(n)}
		if w.At+w.Len > c.Frame {
			break
		}
		c.Windows = append(c.Windows, w)
		end = w.At + w.Len
	}
	if n > 1 {
		for range r.IntN(9) {
			x := conf.Channel{Queue: r.IntN(2) == 0, From: r.IntN(n), Size: 1 + r.IntN(16)}
			x.To = (x.From + 1 + r.IntN(n-1)) % n
			c.Chans = append(c.Chans, x)
		}
	}
	return c
}

// spoil: one field of a system becomes another one, be it one that may be.
func spoil(r *rand.Rand, c *conf.Config) {
	all := 0
	fields(reflect.ValueOf(c).Elem(), "", func(string, reflect.Value) { all++ })
	v, _ := field(c, r.IntN(all))
	switch v.Kind() {
	case reflect.Bool:
		v.SetBool(!v.Bool())
	case reflect.Uint8:
		v.SetUint(uint64(r.IntN(6)))
	default:
		if r.IntN(2) == 0 {
			v.SetInt(int64(edges[r.IntN(len(edges))]))
		} else {
			v.SetInt(v.Int() + int64(r.IntN(7)) - 3)
		}
	}
}

// systems: many, of which some may be and some may not.
func systems() []conf.Config {
	r := rand.New(rand.NewPCG(6, 1))
	l := []conf.Config{{}, small(), full(), {Frame: 1, Parts: make([]conf.Part, 1)}}
	for i := range 4000 {
		c := drawn(r)
		for range i % 4 {
			spoil(r, &c)
		}
		l = append(l, c)
	}
	return l
}

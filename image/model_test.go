package image

import (
	"encoding/binary"
	"math/rand/v2"
	"reflect"

	"parclose/conf"
)

// sizes: in how many bytes each number stands, by its place in a system.
var sizes = map[string]int{
	".Frame": 2, ".Margin": 2,
	".Windows[].At": 2, ".Windows[].Len": 2, ".Windows[].Part": 1,
	".Parts[].Tasks[].T": 2, ".Parts[].Tasks[].D": 2, ".Parts[].Tasks[].V": 2, ".Parts[].Tasks[].Lo": 2, ".Parts[].Tasks[].Top": 2,
	".Parts[].Servers[].C": 2, ".Parts[].Servers[].T": 2,
	".Parts[].Donees[]": 1,
	".Chans[].From":     1, ".Chans[].To": 1, ".Chans[].Size": 2,
}

// numbers goes through all ints of a system, with their places.
func numbers(v reflect.Value, path string, do func(path string, v reflect.Value)) {
	switch v.Kind() {
	case reflect.Struct:
		for i := range v.NumField() {
			numbers(v.Field(i), path+"."+v.Type().Field(i).Name, do)
		}
	case reflect.Slice:
		for i := range v.Len() {
			numbers(v.Index(i), path+"[]", do)
		}
	case reflect.Int:
		do(path, v)
	}
}

// allNumbers: the same of a whole system.
func allNumbers(c *conf.Config, do func(path string, v reflect.Value)) {
	numbers(reflect.ValueOf(c).Elem(), "", do)
}

// spelt: an image, worked out without the program.
type spelt struct{ b []byte }

func (s *spelt) byte(n int) { s.b = append(s.b, byte(n)) }

func (s *spelt) truth(is bool) {
	if is {
		s.byte(1)
	} else {
		s.byte(0)
	}
}

func (s *spelt) two(l ...int) {
	for _, n := range l {
		s.b = binary.BigEndian.AppendUint16(s.b, uint16(n))
	}
}

// spell: the image that a system is to have.
func spell(c conf.Config) []byte {
	s := &spelt{[]byte{80, 65, 82, 75}}
	s.two(c.Frame, c.Margin)
	s.byte(len(c.Windows))
	for _, w := range c.Windows {
		s.two(w.At, w.Len)
		s.byte(w.Part)
	}
	s.byte(len(c.Parts))
	for _, a := range c.Parts {
		s.part(a)
	}
	s.byte(len(c.Chans))
	for _, x := range c.Chans {
		s.truth(x.Queue)
		s.byte(x.From)
		s.byte(x.To)
		s.two(x.Size)
	}
	return s.b
}

func (s *spelt) part(a conf.Part) {
	s.byte(len(a.Tasks))
	for _, k := range a.Tasks {
		s.truth(k.Hi)
		s.two(k.T, k.D, k.V, k.Lo, k.Top)
	}
	s.byte(len(a.Servers))
	for _, v := range a.Servers {
		s.truth(v.Refill)
		s.two(v.C, v.T)
	}
	s.byte(len(a.Donees))
	for _, d := range a.Donees {
		s.byte(d)
	}
	for _, act := range a.Acts {
		s.byte(int(act))
	}
}

// sample: a system in which each field is another number than its neighbours, made anew each time.
func sample() conf.Config {
	return conf.Config{
		Frame: 300, Margin: 3,
		Windows: []conf.Window{{At: 1, Len: 513, Part: 1}, {At: 1027, Len: 15, Part: 0}, {At: 40, Len: 5, Part: 2}},
		Parts: []conf.Part{
			{
				Tasks:   []conf.Task{{Hi: true, T: 2000, D: 1500, V: 800, Lo: 300, Top: 600}, {T: 30, D: 25, V: 24, Lo: 4, Top: 5}},
				Servers: []conf.Server{{Refill: true, C: 258, T: 1000}, {C: 3, T: 11}},
				Donees:  []int{2, 1},
				Acts:    [3]uint8{0, 1, 2},
			},
			{
				Tasks:   []conf.Task{{Hi: true, T: 21, D: 16, V: 9, Lo: 1, Top: 7}},
				Servers: []conf.Server{{C: 1, T: 12}},
				Donees:  []int{0},
				Acts:    [3]uint8{255, 7, 100},
			},
			{},
		},
		Chans: []conf.Channel{{Queue: true, From: 3, To: 4, Size: 800}, {From: 1, To: 0, Size: 9}},
	}
}

// drawnTask, drawnServer, drawnPart, drawn: with numbers of the sizes that they have, without a look at whether there may be such things.
func drawnTask(r *rand.Rand) conf.Task {
	return conf.Task{Hi: r.IntN(2) == 0, T: r.IntN(1 << 16), D: r.IntN(1 << 16), V: r.IntN(1 << 16), Lo: r.IntN(1 << 16), Top: r.IntN(1 << 16)}
}

func drawnServer(r *rand.Rand) conf.Server {
	return conf.Server{Refill: r.IntN(2) == 0, C: r.IntN(1 << 16), T: r.IntN(1 << 16)}
}

func drawnPart(r *rand.Rand, most int) conf.Part {
	a := conf.Part{Acts: [3]uint8{uint8(r.IntN(256)), uint8(r.IntN(256)), uint8(r.IntN(256))}}
	for range r.IntN(most) {
		a.Tasks = append(a.Tasks, drawnTask(r))
	}
	for range r.IntN(most) {
		a.Servers = append(a.Servers, drawnServer(r))
	}
	for range r.IntN(most) {
		a.Donees = append(a.Donees, r.IntN(256))
	}
	return a
}

func drawn(r *rand.Rand, most int) conf.Config {
	c := conf.Config{Frame: r.IntN(1 << 16), Margin: r.IntN(1 << 16)}
	for range r.IntN(most) {
		c.Windows = append(c.Windows, conf.Window{At: r.IntN(1 << 16), Len: r.IntN(1 << 16), Part: r.IntN(256)})
	}
	for range r.IntN(most) {
		c.Parts = append(c.Parts, drawnPart(r, most))
	}
	for range r.IntN(most) {
		c.Chans = append(c.Chans, conf.Channel{Queue: r.IntN(2) == 0, From: r.IntN(256), To: r.IntN(256), Size: r.IntN(1 << 16)})
	}
	return c
}

package image

import (
	"bytes"
	"math"
	"reflect"
	"testing"

	"parclose/api"
	"parclose/conf"
)

// encodes holds Encode of a system against the bytes, or the error, that are to be.
func encodes(t *testing.T, what string, c conf.Config, want []byte, err api.Errno) {
	t.Helper()
	b, e := Encode(c)
	if !bytes.Equal(b, want) || e != err {
		t.Errorf("%s: Encode: %d bytes, error %d, not %d bytes, error %d", what, len(b), e, len(want), err)
	}
}

func TestP502TheExample(t *testing.T) {
	want := []byte{80, 65, 82, 75, 0, 0, 0, 0, 0, 0, 0}
	encodes(t, "the zero system", conf.Config{}, want, api.OK)
	empty := conf.Config{Windows: []conf.Window{}, Parts: []conf.Part{}, Chans: []conf.Channel{}}
	encodes(t, "empty lists", empty, want, api.OK)
}

func TestP502EachByteOfAnImage(t *testing.T) {
	c := conf.Config{
		Frame: 0x0102, Margin: 0x0304,
		Windows: []conf.Window{{At: 0x0506, Len: 0x0708, Part: 9}},
		Parts: []conf.Part{
			{
				Tasks:   []conf.Task{{Hi: true, T: 0x0a0b, D: 0x0c0d, V: 0x0e0f, Lo: 0x1011, Top: 0x1213}, {}},
				Servers: []conf.Server{{Refill: true, C: 0x1415, T: 0x1617}, {T: 24}, {C: 25}},
				Donees:  []int{26, 27, 28, 29},
				Acts:    [3]uint8{30, 31, 32},
			},
			{},
		},
		Chans: []conf.Channel{{Queue: true, From: 33, To: 34, Size: 0x2324}, {From: 37}, {To: 38}},
	}
	encodes(t, "all things", c, []byte{
		80, 65, 82, 75, 1, 2, 3, 4,
		1, 5, 6, 7, 8, 9,
		2,
		2, 1, 10, 11, 12, 13, 14, 15, 16, 17, 18, 19, 0, 0, 0, 0, 0, 0, 0, 0, 0, 0, 0,
		3, 1, 20, 21, 22, 23, 0, 0, 0, 0, 24, 0, 0, 25, 0, 0,
		4, 26, 27, 28, 29,
		30, 31, 32,
		0, 0, 0, 0, 0, 0,
		3, 1, 33, 34, 35, 36, 0, 37, 0, 0, 0, 0, 0, 38, 0, 0,
	}, api.OK)
}

// withNumber: a sample in which the number of a place is n.
func withNumber(place, n int) (c conf.Config, size int, where string) {
	c = sample()
	allNumbers(&c, func(path string, v reflect.Value) {
		if place == 0 {
			v.SetInt(int64(n))
			size, where = sizes[path], path
		}
		place--
	})
	return c, size, where
}

func TestP502EachNumberAtTheLimitsOfItsSize(t *testing.T) {
	count := 0
	all := sample()
	allNumbers(&all, func(path string, v reflect.Value) {
		if sizes[path] == 0 {
			t.Errorf("no size of %s", path)
		}
		count++
	})
	rows := []int{math.MinInt, math.MinInt + 1, -1 << 62, -1 << 32, -1 << 16, -65535, -256, -255, -2, -1,
		0, 1, 127, 128, 254, 255, 256, 257, 32767, 32768, 65534, 65535, 65536, 65537, 1 << 31, 1 << 32, 1<<32 + 1, 1 << 56, 1 << 62, math.MaxInt - 1, math.MaxInt}
	for place := range count {
		for _, n := range rows {
			c, size, where := withNumber(place, n)
			if n >= 0 && n < 1<<(8*size) {
				encodes(t, where, c, spell(c), api.OK)
			} else {
				encodes(t, where, c, nil, api.ErrRange)
			}
		}
	}
}

// lists: what makes each list of a system as long as is told.
var lists = map[string]func(n int) conf.Config{
	"windows":  func(n int) conf.Config { return conf.Config{Windows: make([]conf.Window, n)} },
	"parts":    func(n int) conf.Config { return conf.Config{Parts: make([]conf.Part, n)} },
	"channels": func(n int) conf.Config { return conf.Config{Chans: make([]conf.Channel, n)} },
	"tasks": func(n int) conf.Config {
		return conf.Config{Parts: []conf.Part{{}, {Tasks: make([]conf.Task, n)}}}
	},
	"servers": func(n int) conf.Config {
		return conf.Config{Parts: []conf.Part{{}, {Servers: make([]conf.Server, n)}}}
	},
	"donees": func(n int) conf.Config {
		return conf.Config{Parts: []conf.Part{{}, {Donees: make([]int, n)}}}
	},
}

func TestP502EachCountAtItsLimit(t *testing.T) {
	for what, make := range lists {
		for _, n := range []int{0, 1, 2, 127, 128, 254, 255} {
			encodes(t, what, make(n), spell(make(n)), api.OK)
		}
		for _, n := range []int{256, 257, 511, 512, 513, 65535, 65536, 65537, 1 << 20} {
			encodes(t, what, make(n), nil, api.ErrRange)
		}
	}
}

// long: a system whose image has just so many bytes, from 11 and 6 and 255 on.
func long(length int) conf.Config {
	c := conf.Config{}
	left := length - 11
	for left >= 6+11 {
		a := conf.Part{}
		left -= 6
		n := min(left/11, 255)
		a.Tasks = make([]conf.Task, n)
		left -= n * 11
		d := min(left, 255)
		// Not fewer than a partition are left.
		if left-d > 0 && left-d < 6 {
			d -= 6
		}
		a.Donees = make([]int, d)
		left -= d
		c.Parts = append(c.Parts, a)
	}
	for left > 0 {
		c.Parts[0].Donees = append(c.Parts[0].Donees, 0)
		left--
	}
	return c
}

func TestP502ImagesOfAboutMaxImageBytes(t *testing.T) {
	for _, n := range []int{1000, api.MaxImage - 2, api.MaxImage - 1, api.MaxImage} {
		c := long(n)
		if b := spell(c); len(b) != n {
			t.Fatalf("%d bytes, not %d", len(b), n)
		}
		encodes(t, "a long image", c, spell(c), api.OK)
	}
	for _, n := range []int{api.MaxImage + 1, api.MaxImage + 2, 2 * api.MaxImage, 3*api.MaxImage + 5} {
		c := long(n)
		if b := spell(c); len(b) != n {
			t.Fatalf("%d bytes, not %d", len(b), n)
		}
		encodes(t, "too long an image", c, nil, api.ErrSize)
	}
}

func TestP502ErrRangeIsAheadOfErrSize(t *testing.T) {
	for _, n := range []int{-1, 256, 65536, math.MinInt, math.MaxInt} {
		c := long(2 * api.MaxImage)
		c.Frame = n
		err := api.ErrRange
		if n == 256 {
			err = api.ErrSize
		}
		encodes(t, "the first number", c, nil, err)
		// Its byte would be far behind those that an image may have.
		c = long(2 * api.MaxImage)
		c.Chans = []conf.Channel{{}, {Size: n}}
		encodes(t, "the last number", c, nil, err)
		c = long(2 * api.MaxImage)
		c.Chans = make([]conf.Channel, 256)
		encodes(t, "the last count", c, nil, api.ErrRange)
	}
}

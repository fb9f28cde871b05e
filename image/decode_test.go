package image

import (
	"bytes"
	"fmt"
	"math/rand/v2"
	"reflect"
	"testing"

	"parclose/api"
	"parclose/conf"
)

// decodes holds Decode of some bytes against the system that is to be.
func decodes(t *testing.T, what string, b []byte, want conf.Config) {
	t.Helper()
	c, err := Decode(b)
	if err != api.OK || !conf.Same(c, want) {
		t.Errorf("%s: Decode: error %d, %v, not %v", what, err, c, want)
	}
}

// refuses holds Decode of some bytes against an error, and the zero system beside it.
func refuses(t *testing.T, what string, b []byte, err api.Errno) {
	t.Helper()
	c, e := Decode(b)
	if e != err || !reflect.DeepEqual(c, conf.Config{}) {
		t.Errorf("%s: Decode: error %d, not %d; %v", what, e, err, c)
	}
}

func TestP503TheExample(t *testing.T) {
	decodes(t, "the zero system", []byte{80, 65, 82, 75, 0, 0, 0, 0, 0, 0, 0}, conf.Config{})
}

func TestP503NoBytes(t *testing.T) {
	refuses(t, "nil", nil, api.ErrForm)
	refuses(t, "no bytes", []byte{}, api.ErrForm)
}

func TestP503EachByteOfAnImage(t *testing.T) {
	c := sample()
	decodes(t, "a sample", spell(c), c)
}

func TestP503BytesAreMissing(t *testing.T) {
	b := spell(sample())
	for n := range b {
		refuses(t, fmt.Sprint(n, " bytes"), b[:n], api.ErrForm)
		refuses(t, fmt.Sprint(n, " bytes, alone"), bytes.Clone(b[:n]), api.ErrForm)
	}
	// What the bytes tell of is very long.
	for _, n := range []int{11, 200, api.MaxImage} {
		all := bytes.Repeat([]byte{255}, n)
		copy(all, []byte{80, 65, 82, 75})
		refuses(t, "bytes of all bits", all, api.ErrForm)
	}
}

func TestP503BytesAreLeft(t *testing.T) {
	for _, c := range []conf.Config{{}, sample()} {
		b := spell(c)
		for _, more := range [][]byte{{0}, {1}, {255}, {0, 0}, {80, 65, 82, 75}, b, make([]byte, api.MaxImage-len(b))} {
			refuses(t, "bytes left", append(bytes.Clone(b), more...), api.ErrForm)
		}
	}
}

func TestP503TheMagicIsAnotherOne(t *testing.T) {
	b := spell(sample())
	for at := range 4 {
		for n := range 256 {
			x := bytes.Clone(b)
			x[at] = byte(n)
			if x[at] == b[at] {
				decodes(t, "the Magic", x, sample())
			} else {
				refuses(t, "another Magic", x, api.ErrForm)
			}
		}
	}
	refuses(t, "the Magic a byte later", append([]byte{0}, b...), api.ErrForm)
	refuses(t, "without the Magic", b[4:], api.ErrForm)
	refuses(t, "the Magic, the lowest byte first", append([]byte{75, 82, 65, 80}, b[4:]...), api.ErrForm)
}

// truths: those of a sample.
var truths = []func(c *conf.Config) *bool{
	func(c *conf.Config) *bool { return &c.Parts[0].Tasks[0].Hi },
	func(c *conf.Config) *bool { return &c.Parts[0].Tasks[1].Hi },
	func(c *conf.Config) *bool { return &c.Parts[0].Servers[0].Refill },
	func(c *conf.Config) *bool { return &c.Parts[0].Servers[1].Refill },
	func(c *conf.Config) *bool { return &c.Parts[1].Tasks[0].Hi },
	func(c *conf.Config) *bool { return &c.Parts[1].Servers[0].Refill },
	func(c *conf.Config) *bool { return &c.Chans[0].Queue },
	func(c *conf.Config) *bool { return &c.Chans[1].Queue },
}

// placeOf: the byte in which a truth of a sample stands.
func placeOf(truth func(c *conf.Config) *bool) int {
	c := sample()
	is := truth(&c)
	*is = !*is
	one, other := spell(c), spell(sample())
	at := 0
	for one[at] == other[at] {
		at++
	}
	return at
}

func TestP503EachTruth(t *testing.T) {
	for _, truth := range truths {
		at := placeOf(truth)
		for n := range 256 {
			b := spell(sample())
			b[at] = byte(n)
			if n > 1 {
				refuses(t, fmt.Sprint("a truth of ", n), b, api.ErrForm)
				continue
			}
			want := sample()
			*truth(&want) = n == 1
			decodes(t, fmt.Sprint("a truth of ", n), b, want)
		}
	}
}

func TestP503NoOtherByteIsATruth(t *testing.T) {
	b := spell(sample())
	wrong := 0
	for at := 4; at < len(b); at++ {
		x := bytes.Clone(b)
		x[at] ^= 128
		if _, err := Decode(x); err != api.OK {
			wrong++
		}
	}
	// Beside the truths only a count may not be any number: three of the system, and three of each partition.
	if wrong != len(truths)+3+9 {
		t.Errorf("%d bytes may not be others", wrong)
	}
}

func TestP503NumbersThatNoSystemMayHave(t *testing.T) {
	c := conf.Config{
		Frame: 65535, Margin: 65535,
		Windows: []conf.Window{{At: 65535, Len: 65535, Part: 255}, {}},
		Parts: []conf.Part{{
			Tasks:   []conf.Task{{T: 1, D: 2, V: 3, Lo: 4, Top: 65535}, {}},
			Servers: []conf.Server{{C: 65535}, {}},
			Donees:  []int{255, 255, 0, 0},
			Acts:    [3]uint8{255, 3, 254},
		}},
		Chans: []conf.Channel{{From: 255, To: 255, Size: 65535}, {}},
	}
	decodes(t, "none that may be", spell(c), c)
	for what, make := range lists {
		for _, n := range []int{1, 7, 33, 254, 255} {
			decodes(t, what, spell(make(n)), make(n))
		}
	}
}

func TestP503AboutMaxImageBytes(t *testing.T) {
	for _, n := range []int{api.MaxImage - 1, api.MaxImage} {
		decodes(t, "a long image", spell(long(n)), long(n))
	}
	for _, n := range []int{api.MaxImage + 1, api.MaxImage + 2, 2 * api.MaxImage} {
		refuses(t, "too long an image", spell(long(n)), api.ErrSize)
		// Nothing else is looked at, then.
		refuses(t, "too long, and no image", make([]byte, n), api.ErrSize)
		b := spell(long(n))
		b[0] = 0
		refuses(t, "too long, and another Magic", b, api.ErrSize)
	}
	refuses(t, "too long with bytes left", append(spell(conf.Config{}), make([]byte, api.MaxImage)...), api.ErrSize)
	refuses(t, "as long as may be, no image", make([]byte, api.MaxImage), api.ErrForm)
}

func TestP504ThereAndBack(t *testing.T) {
	r := rand.New(rand.NewPCG(5, 4))
	for i := range 3000 {
		c := drawn(r, 1+i%8)
		encodes(t, "a drawn system", c, spell(c), api.OK)
		b, _ := Encode(c)
		decodes(t, "a drawn system", b, c)
	}
	for what, make := range lists {
		for _, n := range []int{0, 1, 2, 255} {
			b, _ := Encode(make(n))
			decodes(t, what, b, make(n))
		}
	}
}

func TestP504BackAndThere(t *testing.T) {
	r := rand.New(rand.NewPCG(5, 5))
	ok := 0
	for range 60000 {
		// Mostly small bytes, as counts of many things run past the end.
		b := spell(drawn(r, 4))
		for range r.IntN(3) {
			b[r.IntN(len(b))] = byte(r.IntN(4))
		}
		c, err := Decode(b)
		if err != api.OK {
			continue
		}
		ok++
		if back, err := Encode(c); err != api.OK || !bytes.Equal(back, b) {
			t.Fatalf("%v is encoded as %v, error %d", b, back, err)
		}
	}
	if ok < 10000 {
		t.Errorf("only %d were images", ok)
	}
}

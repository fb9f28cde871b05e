package image

import (
	"bytes"
	"reflect"
	"testing"

	"parclose/api"
	"parclose/conf"
)

// room: the memory of a list, from where to where, with the room behind it.
type room struct{ from, to uintptr }

func roomOf(v reflect.Value) room {
	from := uintptr(v.UnsafePointer())
	return room{from, from + uintptr(v.Cap())*v.Type().Elem().Size()}
}

// rooms: those of all lists of a system that have any.
func rooms(v reflect.Value) (l []room) {
	switch v.Kind() {
	case reflect.Struct:
		for i := range v.NumField() {
			l = append(l, rooms(v.Field(i))...)
		}
	case reflect.Slice:
		if r := roomOf(v); r.from < r.to {
			l = append(l, r)
		}
		for i := range v.Len() {
			l = append(l, rooms(v.Index(i))...)
		}
	}
	return l
}

// apart holds lists of rooms against each other: none may overlap another one.
func apart(t *testing.T, what string, l []room) {
	t.Helper()
	for i, a := range l {
		for _, b := range l[:i] {
			if a.from < b.to && b.from < a.to {
				t.Errorf("%s: two lists share memory", what)
			}
		}
	}
}

func TestP501EncodeChangesNothing(t *testing.T) {
	c := sample()
	// The room behind each list is full of what may not change, either.
	c.Windows = append(c.Windows, conf.Window{At: 1, Len: 2, Part: 3})[:3]
	c.Parts = append(c.Parts, sample().Parts[0])[:3]
	c.Parts[0].Donees = append(c.Parts[0].Donees, 77)[:2]
	all := c.Parts[:4]
	before := conf.Clone(conf.Config{Parts: all})
	first, _ := Encode(c)
	again, _ := Encode(c)
	if !conf.Same(c, sample()) || !conf.Same(conf.Config{Parts: all}, before) {
		t.Error("the system is another one now")
	}
	if c.Windows[:4][3].Len != 2 || c.Parts[0].Donees[:3][2] != 77 {
		t.Error("the room behind a list is another one now")
	}
	if !bytes.Equal(first, again) {
		t.Error("the second answer is another one")
	}
}

func TestP501EncodeSharesNothing(t *testing.T) {
	c := sample()
	a, _ := Encode(c)
	b, _ := Encode(c)
	apart(t, "Encode", append(rooms(reflect.ValueOf(c)), roomOf(reflect.ValueOf(a)), roomOf(reflect.ValueOf(b))))
	for i := range a {
		a[i] = 0
	}
	if !bytes.Equal(b, spell(sample())) {
		t.Error("the other answer is another one now")
	}
}

func TestP501DecodeChangesNothing(t *testing.T) {
	b := append(spell(sample()), 71, 72, 73)
	n := len(b) - 3
	decodes(t, "a sample", b[:n], sample())
	decodes(t, "a sample, again", b[:n], sample())
	if !bytes.Equal(b, append(spell(sample()), 71, 72, 73)) {
		t.Error("the bytes are others now")
	}
}

func TestP501DecodeSharesNothing(t *testing.T) {
	b := spell(sample())
	one, _ := Decode(b)
	other, _ := Decode(b)
	all := append(rooms(reflect.ValueOf(one)), rooms(reflect.ValueOf(other))...)
	// Three of the system, and three of each partition but the last.
	if len(all) != 2*9 {
		t.Errorf("%d lists, not 18", len(all))
	}
	apart(t, "Decode", append(all, roomOf(reflect.ValueOf(b))))
	clear(b)
	allNumbers(&one, func(path string, v reflect.Value) { v.SetInt(9) })
	if !conf.Same(other, sample()) {
		t.Error("the other answer is another one now")
	}
}

func TestP501ListsOfAnAnswerGoOnApart(t *testing.T) {
	many := conf.Config{Windows: make([]conf.Window, 5), Chans: make([]conf.Channel, 5)}
	for i := range 20 {
		many.Parts = append(many.Parts, conf.Part{Donees: make([]int, i), Tasks: make([]conf.Task, 20-i), Servers: make([]conf.Server, i)})
	}
	c, err := Decode(spell(many))
	if err != api.OK {
		t.Fatal(err)
	}
	apart(t, "Decode", rooms(reflect.ValueOf(c)))
	for i := range c.Parts {
		a := &c.Parts[i]
		a.Donees = append(a.Donees, 5)
		a.Tasks = append(a.Tasks, conf.Task{T: 5})
		a.Servers = append(a.Servers, conf.Server{T: 5})
	}
	for i, a := range c.Parts {
		if len(a.Donees) != i+1 || a.Donees[i] != 5 || a.Tasks[20-i].T != 5 || a.Servers[i].T != 5 {
			t.Errorf("what is put at the end of lists of partition %d is not there", i)
		}
	}
}

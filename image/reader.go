package image

import (
	"parclose/code"
	"parclose/conf"
)

// reader: gets the things of a system. Where bytes are missing it gets zeros, so that it goes on to its end, and the error is asked there.
type reader struct {
	*code.Reader
	// wrong: some bytes are those of no image.
	wrong bool
}

func (r *reader) config() (c conf.Config) {
	r.magic()
	r.fields(2, &c.Frame, &c.Margin)
	c.Windows = list(r, (*reader).window)
	c.Parts = list(r, (*reader).part)
	c.Chans = list(r, (*reader).channel)
	return c
}

func (r *reader) magic() {
	if r.Get(4) != Magic {
		r.wrong = true
	}
}

func (r *reader) window() (x conf.Window) {
	r.fields(2, &x.At, &x.Len)
	r.fields(1, &x.Part)
	return x
}

func (r *reader) part() (a conf.Part) {
	a.Tasks = list(r, (*reader).task)
	a.Servers = list(r, (*reader).server)
	a.Donees = list(r, (*reader).donee)
	for i := range a.Acts {
		a.Acts[i] = uint8(r.Get(1))
	}
	return a
}

func (r *reader) task() (x conf.Task) {
	x.Hi = r.truth()
	r.fields(2, &x.T, &x.D, &x.V, &x.Lo, &x.Top)
	return x
}

func (r *reader) server() (s conf.Server) {
	s.Refill = r.truth()
	r.fields(2, &s.C, &s.T)
	return s
}

func (r *reader) donee() int { return r.Get(1) }

func (r *reader) channel() (x conf.Channel) {
	x.Queue = r.truth()
	r.fields(1, &x.From, &x.To)
	r.fields(2, &x.Size)
	return x
}

func (r *reader) truth() bool {
	n := r.Get(1)
	if n > 1 {
		r.wrong = true
	}
	return n == 1
}

// fields: gets one number for each of them, all of one size.
func (r *reader) fields(size int, l ...*int) {
	for _, field := range l {
		*field = r.Get(size)
	}
}

// list: gets how many there are, then each of them.
func list[T any](r *reader, get func(*reader) T) []T {
	var l []T
	for range r.Get(1) {
		l = append(l, get(r))
	}
	return l
}

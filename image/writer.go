package image

import (
	"parclose/api"
	"parclose/code"
	"parclose/conf"
)

// writer: puts the things of a system. Each method has its like in a reader, which gets what is put here, in that order.
type writer struct{ *code.Writer }

func (w writer) config(c conf.Config) {
	w.Put(4, Magic)
	w.Put(2, c.Frame, c.Margin)
	putList(w, c.Windows, writer.window)
	putList(w, c.Parts, writer.part)
	putList(w, c.Chans, writer.channel)
}

func (w writer) window(x conf.Window) {
	w.Put(2, x.At, x.Len)
	w.Put(1, x.Part)
}

func (w writer) part(a conf.Part) {
	putList(w, a.Tasks, writer.task)
	putList(w, a.Servers, writer.server)
	putList(w, a.Donees, writer.donee)
	for _, act := range a.Acts {
		w.Put(1, int(act))
	}
}

func (w writer) task(x conf.Task) {
	w.truth(x.Hi)
	w.Put(2, x.T, x.D, x.V, x.Lo, x.Top)
}

func (w writer) server(s conf.Server) {
	w.truth(s.Refill)
	w.Put(2, s.C, s.T)
}

func (w writer) donee(p int) { w.Put(1, p) }

func (w writer) channel(x conf.Channel) {
	w.truth(x.Queue)
	w.Put(1, x.From, x.To)
	w.Put(2, x.Size)
}

func (w writer) truth(is bool) {
	n := 0
	if is {
		n = 1
	}
	w.Put(1, n)
}

// putList: how many there are, then each of them.
func putList[T any](w writer, l []T, put func(writer, T)) {
	w.Put(1, len(l))
	for _, x := range l {
		// Of a list that is too long there may be very many, none of which is put.
		if w.Err() != api.OK {
			return
		}
		put(w, x)
	}
}

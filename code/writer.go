package code

import "parclose/api"

// Writer: what was written. The zero Writer is one that nothing was written to.
type Writer struct {
	fault
	last   *number
	length int
}

// number: one that was put, behind others. They are a chain, not one slice that grows, as copies of a Writer would all write into the room behind that slice.
type number struct {
	ahead   *number
	size, n int
}

// Put: each number is written, up to the first one that is none of that size.
func (w *Writer) Put(size int, l ...int) {
	if w == nil || w.failed() {
		return
	}
	if !isSize(size) {
		w.fail(api.ErrRange)
		return
	}
	for _, n := range l {
		if !isOf(size, n) {
			w.fail(api.ErrRange)
			return
		}
		w.last = &number{w.last, size, n}
		w.length += size
	}
}

// Bytes: all that was written, be it ahead of an error.
func (w *Writer) Bytes() []byte {
	if w == nil {
		return nil
	}
	b := make([]byte, w.length)
	at := w.length
	// The chain leads from the last number to the first one, and the lowest byte is the last of a number: so it goes from the end on.
	for p := w.last; p != nil; p = p.ahead {
		n := p.n
		for range p.size {
			at--
			b[at] = byte(n)
			n >>= 8
		}
	}
	return b
}

// Err: the first error.
func (w *Writer) Err() api.Errno {
	if w == nil {
		return api.ErrArg
	}
	return w.first
}

package code

import (
	"slices"

	"parclose/api"
)

// Reader: what is left.
type Reader struct {
	fault
	// made, as the zero Reader must not be taken for one that Read made of no bytes.
	made bool
	left []byte
}

// Read: a Reader of all these bytes.
func Read(b []byte) *Reader {
	return &Reader{made: true, left: slices.Clone(b)}
}

// Get: the next number; 0, if it isn't there.
func (r *Reader) Get(size int) int {
	if !r.has(size, 1) {
		return 0
	}
	return r.next(size)
}

// Some: the next n numbers; none, if not all of them are there.
func (r *Reader) Some(size, n int) []int {
	// Where none are asked for, nothing is read, so nothing is wrong with the size.
	if n < 1 || !r.has(size, n) {
		return nil
	}
	l := make([]int, n)
	for i := range l {
		l[i] = r.next(size)
	}
	return l
}

// Left: bytes that are not read yet.
func (r *Reader) Left() int {
	if r == nil || r.failed() {
		return 0
	}
	return len(r.left)
}

// Err: the first error.
func (r *Reader) Err() api.Errno {
	if r == nil || !r.made {
		return api.ErrArg
	}
	return r.first
}

// has: are n more numbers there to be read? If not, why, is kept.
func (r *Reader) has(size, n int) bool {
	if r == nil || !r.made {
		return false
	}
	switch {
	case !isSize(size):
		r.fail(api.ErrArg)
	// Divided, not multiplied, as the product may wrap round.
	case n > len(r.left)/size:
		r.fail(api.ErrSize)
	}
	return !r.failed()
}

// next: asked behind has alone, which looks at whether the bytes are there.
func (r *Reader) next(size int) int {
	n := 0
	for _, b := range r.left[:size] {
		n = n<<8 | int(b)
	}
	r.left = r.left[size:]
	return n
}

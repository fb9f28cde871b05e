package frame

import (
	"parclose/api"
	"parclose/conf"
)

// windows: those of a frame, one behind the other; what a Table embeds. Its places are from 0 to below the frame's length.
type windows struct {
	margin int
	list   []conf.Window
}

// inARow: is each window in the frame, behind the one ahead of it, and of a partition?
func inARow(frame int, l []conf.Window) bool {
	end := 0
	for _, w := range l {
		if w.At < end || w.Len < 1 || w.Part < 0 || w.Part >= api.MaxParts {
			return false
		}
		// What is left of the frame is asked, as At and Len may together be more than an int holds.
		if w.Len > frame-w.At {
			return false
		}
		end = w.At + w.Len
	}
	return true
}

// owner: of a place, and its kind.
func (s windows) owner(place int) (int, int) {
	for _, w := range s.list {
		begin, end := s.open(w)
		switch {
		case place < w.At || place >= end:
		case place < begin:
			return w.Part, Margin
		default:
			return w.Part, Open
		}
	}
	return -1, Gap
}

// openAhead: how many places ahead of end are open to p.
func (s windows) openAhead(p, end int) int {
	n := 0
	for _, w := range s.list {
		if w.Part == p {
			from, to := s.open(w)
			n += max(0, min(to, end)-from)
		}
	}
	return n
}

// firstOpen: the first place, from begin on, that is open to p.
func (s windows) firstOpen(p, begin int) (int, bool) {
	for _, w := range s.list {
		from, to := s.open(w)
		first := max(from, begin)
		if w.Part == p && first < to {
			return first, true
		}
	}
	return 0, false
}

// open: the first open place of a window, and the one behind the last. Where the margin takes the whole window, the first is not ahead of the other one.
func (s windows) open(w conf.Window) (int, int) {
	return w.At + s.margin, w.At + w.Len
}

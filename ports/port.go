package ports

import (
	"parclose/conf"
	"parclose/ring"
)

// port: a channel, and what it holds. There are two kinds of them, by whether a message waits for its reader, or just for the next message.
type port interface {
	leadsFrom(part int) bool
	leadsTo(part int) bool
	put(value, now int)
	// take: the message that is read now, and what is told beside it; false, if there is none.
	take(now int) (int, int, bool)
	empty()
	waiting() int
}

func newPort(c conf.Channel) port {
	if c.Queue {
		return &queue{line: line{c}, row: ring.New[int](c.Size)}
	}
	return &sample{line: line{c}}
}

// line: a channel, and whose it is.
type line struct {
	conf.Channel
}

func (l *line) leadsFrom(part int) bool { return l.From == part }

func (l *line) leadsTo(part int) bool { return l.To == part }

// queue: the messages of a Queue. A ring has just as much room as the Size of one is to mean, whatever it is.
type queue struct {
	line
	row *ring.Ring[int]
	// lost: so many found no room, since one was read.
	lost int
}

func (q *queue) put(value, _ int) {
	if !q.row.Push(value) {
		q.lost++
	}
}

func (q *queue) take(int) (int, int, bool) {
	value, ok := q.row.Pop()
	if !ok {
		return 0, 0, false
	}
	lost := q.lost
	q.lost = 0
	return value, lost, true
}

func (q *queue) empty() {
	q.row.Clear()
	q.lost = 0
}

func (q *queue) waiting() int { return q.row.Len() }

// message: a value, and when it was written.
type message struct{ value, at int }

// sample: the last message of a channel that is no Queue, if it holds one.
type sample struct {
	line
	held bool
	last message
}

func (s *sample) put(value, now int) { s.held, s.last = true, message{value, now} }

func (s *sample) take(now int) (int, int, bool) {
	switch {
	case !s.held:
		return 0, 0, false
	case s.fresh(now):
		return s.last.value, 1, true
	}
	return s.last.value, 0, true
}

// fresh: is now at most Size behind the writing?
func (s *sample) fresh(now int) bool {
	behind := now - s.last.at
	// Where that doesn't fit into an int it is greater than any Size; or less, if now is ahead.
	if ahead := now < s.last.at; ahead != (behind < 0) {
		return ahead
	}
	return behind <= s.Size
}

func (s *sample) empty() { s.held, s.last = false, message{} }

func (s *sample) waiting() int {
	if s.held {
		return 1
	}
	return 0
}

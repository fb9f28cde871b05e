package wheel

import (
	"iter"
	"math/bits"
	"slices"
)

// digitBits: a tick is looked at digit by digit, of sixteen values each, the lowest one first.
const digitBits = 4

// slotCount: a slot for each value of a digit.
const slotCount = 1 << digitBits

// levelCount: a level for each digit of an int, so that the highest one reaches to api.MaxTick.
const levelCount = 64 / digitBits

// levels: the slots of all levels. A level's slots reach to the end of the block of ticks that are like now in all higher digits; so a timer is in the level of the highest digit in which its tick is not like now, in the slot of the value that its tick has there.
type levels [levelCount][slotCount]slot

// slot: where a timer that is set to a tick behind now is.
func (l *levels) slot(now, tick int) *slot {
	return l.at(tick, (bits.Len(uint(now^tick))-1)/digitBits)
}

// turn: the slot whose turn comes with now. There is just one: where lower digits begin anew, nothing is in their levels, as none of these reached beyond the tick before.
func (l *levels) turn(now int) *slot {
	return l.at(now, bits.TrailingZeros(uint(now))/digitBits)
}

// at: the slot of a level for the value that a tick's digit has there.
func (l *levels) at(tick, level int) *slot {
	return &l[level][tick>>(level*digitBits)%slotCount]
}

// slot: timers, in any order.
type slot []int

// put: a timer that was not in is in.
func (s *slot) put(id int) { *s = append(*s, id) }

// remove: a timer that was in is out.
func (s *slot) remove(id int) {
	at := slices.Index(*s, id)
	*s = slices.Delete(*s, at, at+1)
}

// take: a timer that was in, which is out.
func (s *slot) take() int {
	last := len(*s) - 1
	id := (*s)[last]
	*s = (*s)[:last]
	return id
}

// leaving: yields the timers one by one, each of which is out by then.
func (s *slot) leaving() iter.Seq[int] {
	return func(yield func(int) bool) {
		for len(*s) > 0 && yield(s.take()) {
		}
	}
}

package police

import "parclose/conf"

// known: a task, and what is known of its arrivals.
type known struct {
	conf.Task
	// accepted, as last alone doesn't tell one at 0 from none.
	accepted bool
	last     int
}

// soon: is now ahead of the last one that was accepted, or fewer than T ticks behind it? Both are from 0 to MaxTick, so what is between them fits; it is below 0, and so below T, where now is ahead.
func (k *known) soon(now int) bool { return k.accepted && now-k.last < k.T }

// accept: one is accepted now.
func (k *known) accept(now int) { k.accepted, k.last = true, now }

package supply

import (
	"slices"

	"parclose/frame"
)

// table: the supplies of all numbers of ticks below a frame's, each in the row of its number; what a Supply embeds. Those of greater numbers follow from these, as each whole frame offers the same wherever it begins.
type table struct {
	rows    []row
	offered int
}

// row: the supply of so many ticks, and the first tick from which on there are just so many open ones.
type row struct{ least, worst int }

// openTicks: tells how many of n ticks from from on are open to p; from and n are below a frame's ticks.
func openTicks(t *frame.Table, p int) func(from, n int) int {
	// The table is asked once for each tick, as for each from and n there would be far too many to ask.
	ahead := make([]int, 2*t.Frame())
	for tick := range ahead {
		ahead[tick] = t.Count(p, 0, tick)
	}
	return func(from, n int) int { return ahead[from+n] - ahead[from] }
}

// newTable: of a frame of so many ticks, of which so many are offered, and open tells how many of some are open.
func newTable(ticks, offered int, open func(from, n int) int) table {
	rows := make([]row, ticks)
	for n := range rows {
		rows[n].least = open(0, n)
		for from := range ticks {
			if few := open(from, n); few < rows[n].least {
				rows[n] = row{few, from}
			}
		}
	}
	return table{rows, offered}
}

// least: the supply of n ticks.
func (t table) least(n int) int {
	return n/len(t.rows)*t.offered + t.rows[n%len(t.rows)].least
}

// worst: where the whole frames begin tells nothing, so it is as that of the ticks that are left.
func (t table) worst(n int) int {
	return t.rows[n%len(t.rows)].worst
}

// wait: the least number of ticks whose supply is work, of 1 or more, where something is offered.
func (t table) wait(work int) int {
	// What is left of the work behind whole frames is in one of the rows, as the last one's supply is all of a frame's but one.
	left := work % t.offered
	n := slices.IndexFunc(t.rows, func(r row) bool { return r.least >= left })
	return work/t.offered*len(t.rows) + n
}

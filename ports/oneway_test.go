package ports_test

import (
	"math/rand/v2"
	"slices"
	"testing"

	"parclose/api"
	"parclose/conf"
	"parclose/ports"
)

// Kinds of calls.
const (
	toWrite = iota
	toRead
	toClear
	toWait
)

// call: one of Ports, by its numbers.
type call struct{ kind, part, channel, value, now int }

// answers: what the Writes of a row are answered, by Ports that are made for it. Calls of kinds that are left out are not made.
func answers(l []conf.Channel, row []call, without ...int) []api.Errno {
	p := ports.New(l...)
	var told []api.Errno
	for _, c := range row {
		if slices.Contains(without, c.kind) {
			continue
		}
		switch c.kind {
		case toWrite:
			told = append(told, p.Write(c.part, c.channel, c.value, c.now))
		case toRead:
			p.Read(c.part, c.channel, c.now)
		case toClear:
			p.Clear(c.part)
		case toWait:
			p.Waiting(c.channel)
		}
	}
	return told
}

// drawnRow: of all kinds of calls, writes most often, and most of those by who may.
func drawnRow(r *rand.Rand, l []conf.Channel, long int) []call {
	var row []call
	share := 6
	for now := range long {
		if r.IntN(50) == 0 {
			share = []int{2, 6, 9}[r.IntN(3)]
		}
		c := call{[]int{toRead, toRead, toRead, toClear, toWait}[r.IntN(5)], r.IntN(6) - 1, r.IntN(len(l)+2) - 1, r.IntN(99), now}
		if r.IntN(10) < share {
			c.kind = toWrite
		}
		if is := 0 <= c.channel && c.channel < len(l); is && r.IntN(10) > 0 {
			c.part = l[c.channel].To
			if c.kind == toWrite {
				c.part = l[c.channel].From
			}
		}
		row = append(row, c)
	}
	return row
}

func drawnChannels(r *rand.Rand) []conf.Channel {
	var l []conf.Channel
	for range r.IntN(9) {
		l = append(l, drawnChannel(r))
	}
	return l
}

func TestP2104WhatAWriteIsAnsweredWithoutReaders(t *testing.T) {
	taken, refused := 0, 0
	for seed := range uint64(3000) {
		r := rand.New(rand.NewPCG(seed, 2104))
		l := drawnChannels(r)
		row := drawnRow(r, l, 200)
		all := answers(l, row)
		for _, without := range [][]int{{toRead, toClear, toWait}, {toRead}, {toClear}, {toRead, toClear}, {toWait}} {
			if told := answers(l, row, without...); !slices.Equal(told, all) {
				t.Fatalf("channels %v, calls %v: Writes are answered %v, and without %v %v", l, row, all, without, told)
			}
		}
		for _, err := range all {
			if err == api.OK {
				taken++
			} else {
				refused++
			}
		}
	}
	if taken < 10000 || refused < 10000 {
		t.Errorf("%d Writes were taken, %d refused", taken, refused)
	}
}

func TestP2104WhatAWriteIsAnsweredByItself(t *testing.T) {
	// It hangs on who writes where alone, whatever came ahead: on its own it is answered the same, and among other channels, too.
	for seed := range uint64(300) {
		r := rand.New(rand.NewPCG(seed, 4012))
		l := drawnChannels(r)
		row := drawnRow(r, l, 60)
		all := answers(l, row)
		for _, c := range row {
			if c.kind != toWrite {
				continue
			}
			want := api.ErrArg
			if 0 <= c.channel && c.channel < len(l) && l[c.channel].From == c.part {
				want = api.OK
			}
			if all[0] != want {
				t.Fatalf("channels %v, calls %v: Write %v: %d, not %d", l, row, c, all[0], want)
			}
			all = all[1:]
			if told := answers(l, []call{c}); told[0] != want {
				t.Fatalf("channels %v: Write %v by itself: %d, not %d", l, c, told[0], want)
			}
			others := slices.Clone(l)
			for channel := range others {
				if channel != c.channel {
					others[channel] = drawnChannel(r)
				}
			}
			if told := answers(others, row); told[len(told)-len(all)-1] != want {
				t.Fatalf("channels %v, calls %v: Write %v: another answer than %d", others, row, c, want)
			}
		}
	}
}

func TestP2104AFullQueueAnswersAsAnEmptyOne(t *testing.T) {
	for _, size := range []int{-1, 0, 1, 2, 16, 4096, 4097} {
		p := ports.New(queue(0, 1, size))
		for n := range 5000 {
			wrote(t, p, n)
			if err := p.Write(1, 0, n, n); err != api.ErrArg {
				t.Fatalf("Size %d: Write by the reader: %d", size, err)
			}
		}
		for n := range 5000 {
			p.Read(1, 0, n)
			wrote(t, p, n)
		}
		p.Clear(1)
		wrote(t, p, 0)
	}
}

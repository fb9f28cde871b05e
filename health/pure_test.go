package health_test

import (
	"slices"
	"sync"
	"testing"

	"parclose/api"
	"parclose/health"
)

func TestP2202MonitorsAreApart(t *testing.T) {
	// Two of each row, and all of them are looked at behind each fault of one.
	var l []*both
	for _, acts := range rows() {
		l = append(l, newBoth(t, acts), newBoth(t, acts))
	}
	for i, b := range l {
		for n := range i%4 + 1 {
			b.fault((i + n) % 3)
			b.fault(-1 - n)
			for _, other := range l {
				other.look()
			}
		}
		b.stop("apart")
	}
}

func TestP2202WhatIsChangedIsNotSeen(t *testing.T) {
	for _, acts := range rows() {
		// What was handed in becomes other acts, then ones that may not be.
		handed := acts
		b := &both{t: t, m: health.New(handed), acts: acts}
		for place := range handed {
			for _, act := range []uint8{(acts[place] + 1) % 3, 255} {
				handed[place] = act
				b.look()
				b.fault(place)
			}
		}
		// And so does what was answered.
		for place := range handed {
			for _, act := range []uint8{(acts[place] + 1) % 3, 255} {
				answer := b.m.Acts()
				answer[place] = act
				b.look()
				b.fault(place)
			}
		}
		b.lookFar()
		b.stop("behind changes")
	}
}

func TestP2202WhatWasToldStays(t *testing.T) {
	m := health.New([3]uint8{stop, again, note})
	acts := m.Acts()
	for n := range 9 {
		m.Fault(n % 3)
	}
	if acts != [3]uint8{stop, again, note} {
		t.Errorf("Acts, as they were told: %v", acts)
	}
}

func TestP2201ACopyGoesOnApart(t *testing.T) {
	b := newBoth(t, [3]uint8{again, stop, note})
	for _, kind := range []int{overrun, odd, odd} {
		b.fault(kind)
	}
	c := *b.m
	copied := &both{t, &c, b.acts, slices.Clone(b.seen)}
	for kind := range 3 {
		b.fault(kind)
		b.look()
		copied.look()
		copied.fault(2 - kind)
		copied.fault(2 - kind)
		b.look()
		copied.look()
	}
	b.stop("a copy")
}

func TestP2201TheSameFaultsTellTheSame(t *testing.T) {
	// In any order, and whatever else was called in between.
	for i, acts := range rows() {
		d := newDrawing(t, acts, 9000+uint64(i))
		for range 100 {
			d.call()
		}
		list := slices.Clone(d.seen)
		for range 3 {
			d.r.Shuffle(len(list), func(i, j int) { list[i], list[j] = list[j], list[i] })
			other := newBoth(t, acts)
			for _, kind := range list {
				other.fault(kind)
			}
			for kind := range 3 {
				if n, m := d.m.Count(kind), other.m.Count(kind); n != m {
					t.Errorf("Count(%d): %d and %d", kind, n, m)
				}
			}
		}
	}
}

func TestP2201EachOfManyHasItsOwnMonitor(t *testing.T) {
	var group sync.WaitGroup
	l := rows()
	for i := range 16 {
		d := newDrawing(t, l[i+5], 7000+uint64(i))
		group.Go(func() {
			for range 200 {
				d.call()
				d.look()
			}
		})
	}
	group.Wait()
}

func TestP2201ManyAskOneMonitor(t *testing.T) {
	// What tells, and changes nothing, may be asked at the same time; what is refused, too.
	b := newBoth(t, [3]uint8{note, again, stop})
	for n := range 20 {
		b.fault(n * n % 3)
	}
	var group sync.WaitGroup
	for range 8 {
		group.Go(func() {
			for range 50 {
				b.lookFar()
				for _, kind := range []int{-1, 3} {
					if act, err := b.m.Fault(kind); act != 0 || err != api.ErrArg {
						t.Errorf("Fault(%d): %d, %d", kind, act, err)
					}
				}
				if a, b := health.Name(odd), health.Does(again); a != "odd" || b != "again" {
					t.Errorf("Name, Does: %q, %q", a, b)
				}
			}
		})
	}
	group.Wait()
}

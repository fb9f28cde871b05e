package health_test

import (
	"testing"

	"parclose/api"
	"parclose/health"
)

// isNone holds a Monitor that is none to its answers, whatever it is handed.
func isNone(t *testing.T, what string, m *health.Monitor) {
	t.Helper()
	for range 2 {
		for _, kind := range numbers {
			if act, err := m.Fault(kind); act != 0 || err != api.ErrArg {
				t.Errorf("%s: Fault(%d): %d, %d", what, kind, act, err)
			}
			for _, other := range []int{kind, missed, overrun, odd} {
				if n := m.Count(other); n != 0 {
					t.Errorf("%s: Count(%d): %d", what, other, n)
				}
			}
			if acts := m.Acts(); acts != [3]uint8{} {
				t.Errorf("%s: Acts: %v", what, acts)
			}
		}
	}
}

func TestP2201ANilMonitor(t *testing.T) {
	isNone(t, "a nil Monitor", nil)
}

func TestP2201MonitorsThatNewDidNotMake(t *testing.T) {
	var m health.Monitor
	made := newBoth(t, [3]uint8{again, stop, again})
	for _, kind := range []int{missed, overrun, odd, odd} {
		made.fault(kind)
	}
	*made.m = health.Monitor{}
	for what, a := range map[string]*health.Monitor{"the zero Monitor": &m, "a new Monitor": new(health.Monitor), "a literal": {}, "one that was made zero": made.m} {
		isNone(t, what, a)
	}
}

func TestP2201WhatNewTellsOfActsThatMayNotBe(t *testing.T) {
	isNone(t, "what New tells of an act above Again", health.New([3]uint8{note, again + 1, stop}))
}

func TestP2202NewOfEachRowThatMayBe(t *testing.T) {
	l := rows()
	if len(l) != 27 {
		t.Fatalf("%d rows", len(l))
	}
	for _, acts := range l {
		b := newBoth(t, acts)
		// None was seen at first.
		b.lookFar()
		b.stop("New")
	}
}

func TestP2202NewOfOneActAboveAgain(t *testing.T) {
	for place := range 3 {
		for _, acts := range rows() {
			for act := again + 1; act <= 255; act++ {
				acts[place] = uint8(act)
				if m := health.New(acts); m != nil {
					t.Fatalf("New(%v): not nil", acts)
				}
			}
		}
	}
}

func TestP2202NewOfEveryRowOfBytes(t *testing.T) {
	for a := range 256 {
		for b := range 256 {
			for c := range 256 {
				acts := [3]uint8{uint8(a), uint8(b), uint8(c)}
				may := a <= again && b <= again && c <= again
				if m := health.New(acts); (m != nil) != may {
					t.Fatalf("New(%v): is it nil? %v", acts, m == nil)
				}
			}
		}
	}
}

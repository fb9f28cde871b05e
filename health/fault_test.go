package health_test

import (
	"testing"

	"parclose/api"
	"parclose/conf"
	"parclose/health"
)

func TestP2202TheChaptersExample(t *testing.T) {
	m := health.New([3]uint8{conf.Note, conf.Stop, conf.Again})
	if act, err := m.Fault(conf.Overrun); act != conf.Stop || err != api.OK {
		t.Errorf("Fault(Overrun): %d, %d", act, err)
	}
	if n := m.Count(conf.Overrun); n != 1 {
		t.Errorf("Count(Overrun): %d", n)
	}
}

func TestP2202TheKindsAndTheActs(t *testing.T) {
	if l := [3]int{conf.Missed, conf.Overrun, conf.Odd}; l != [3]int{missed, overrun, odd} {
		t.Errorf("Missed to Odd: %v", l)
	}
	if l := [3]int{conf.Note, conf.Stop, conf.Again}; l != [3]int{note, stop, again} {
		t.Errorf("Note to Again: %v", l)
	}
}

func TestP2202EachKindUnderEachAct(t *testing.T) {
	for _, acts := range rows() {
		for kind, want := range acts {
			m := health.New(acts)
			for n := range 5 {
				if act, err := m.Fault(kind); act != want || err != api.OK {
					t.Errorf("Fault(%d) under %v: %d, %d", kind, acts, act, err)
				}
				for other := range acts {
					seen := 0
					if other == kind {
						seen = n + 1
					}
					if got := m.Count(other); got != seen {
						t.Errorf("Count(%d) behind %d of %d: %d", other, n+1, kind, got)
					}
				}
				if got := m.Acts(); got != acts {
					t.Errorf("Acts behind %d of %d: %v, not %v", n+1, kind, got, acts)
				}
			}
		}
	}
}

func TestP2202AFaultOfNoKindChangesNothing(t *testing.T) {
	for _, acts := range rows() {
		// Of one that saw none, and of one that saw as many of no kind as of another one.
		none, some := newBoth(t, acts), newBoth(t, acts)
		for kind := range 3 {
			for range 2*kind + 1 {
				some.fault(kind)
			}
		}
		for _, b := range []*both{none, some} {
			for _, kind := range numbers {
				if isKind(kind) {
					continue
				}
				if act, err := b.m.Fault(kind); act != 0 || err != api.ErrArg {
					t.Errorf("Fault(%d): %d, %d", kind, act, err)
				}
				b.look()
			}
			b.lookFar()
			for kind := range 3 {
				b.fault(kind)
			}
			b.lookFar()
			b.stop("kinds there are not")
		}
	}
}

func TestP2202CountOfNoKindIs0(t *testing.T) {
	m := health.New([3]uint8{again, again, again})
	for n := range 300 {
		m.Fault(n % 3)
		for _, kind := range numbers {
			if got := m.Count(kind); got != 0 && !isKind(kind) {
				t.Fatalf("Count(%d): %d", kind, got)
			}
		}
	}
}

func TestP2202ManyFaultsOfOneKind(t *testing.T) {
	const many = 70000
	for kind := range 3 {
		acts := [3]uint8{again, note, stop}
		m := health.New(acts)
		for n := range many {
			if act, err := m.Fault(kind); act != acts[kind] || err != api.OK {
				t.Fatalf("Fault(%d), number %d: %d, %d", kind, n, act, err)
			}
			if got := m.Count(kind); got != n+1 {
				t.Fatalf("Count(%d): %d, not %d", kind, got, n+1)
			}
		}
		for other := range 3 {
			if got := m.Count(other); other != kind && got != 0 {
				t.Errorf("Count(%d) behind faults of %d: %d", other, kind, got)
			}
		}
		if got := m.Acts(); got != acts {
			t.Errorf("Acts: %v", got)
		}
	}
}

func TestP2202AllKindsInTurn(t *testing.T) {
	for _, acts := range rows() {
		for _, turn := range [][]int{{missed, overrun, odd}, {odd, overrun, missed}, {overrun, missed}, {missed, odd}, {odd, overrun}, {missed, missed, odd, overrun, odd}} {
			b := newBoth(t, acts)
			for n := range 60 {
				b.fault(turn[n%len(turn)])
				b.look()
			}
			b.lookFar()
			b.stop("in turn")
		}
	}
}

package health_test

import (
	"testing"

	"parclose/conf"
	"parclose/health"
)

func TestP2203NameOfEachKind(t *testing.T) {
	for kind, want := range map[int]string{conf.Missed: "missed", conf.Overrun: "overrun", conf.Odd: "odd"} {
		for range 2 {
			if s := health.Name(kind); s != want {
				t.Errorf("Name(%d): %q, not %q", kind, s, want)
			}
		}
	}
}

func TestP2203NameOfNoKind(t *testing.T) {
	for kind := -70000; kind <= 70000; kind++ {
		if s := health.Name(kind); s != "" && !isKind(kind) {
			t.Fatalf("Name(%d): %q", kind, s)
		}
	}
	for _, kind := range numbers {
		if s := health.Name(kind); s != "" && !isKind(kind) {
			t.Errorf("Name(%d): %q", kind, s)
		}
	}
}

func TestP2203DoesOfEachByte(t *testing.T) {
	words := [256]string{conf.Note: "note", conf.Stop: "stop", conf.Again: "again"}
	for act, want := range words {
		for range 2 {
			if s := health.Does(uint8(act)); s != want {
				t.Errorf("Does(%d): %q, not %q", act, s, want)
			}
		}
	}
}

// What is done about a fault has a word, as it is one of the acts.
func TestP2203DoesOfWhatIsDone(t *testing.T) {
	m := health.New([3]uint8{again, note, stop})
	for kind, want := range []string{"again", "note", "stop"} {
		act, _ := m.Fault(kind)
		if s := health.Does(act); s != want {
			t.Errorf("%s: %q, not %q", health.Name(kind), s, want)
		}
	}
}

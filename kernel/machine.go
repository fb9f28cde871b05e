package kernel

import (
	"parclose/api"
	"parclose/conf"
	"parclose/gsched"
	"parclose/health"
	"parclose/journal"
	"parclose/ledger"
	"parclose/part"
	"parclose/ports"
)

// member: a partition, what watches it, and what it sees. The zero one answers as none does, as each of the three is nil.
type member struct {
	*part.Part
	*health.Monitor
	*journal.Log
}

// machine: all that a system is made of, and the tick that comes.
type machine struct {
	*gsched.Sched
	*ports.Ports
	config  conf.Config
	book    *ledger.Ledger
	members []member
	tick    int
}

// newMachine: of a system that may be, with all partitions up. It keeps the system.
func newMachine(c conf.Config, start int) *machine {
	m := &machine{Sched: gsched.New(c), Ports: ports.New(c.Chans...), config: c, book: ledger.New(len(c.Parts)), tick: start}
	for _, a := range c.Parts {
		m.members = append(m.members, member{part.New(a, start), health.New(a.Acts), journal.New(api.MaxStory)})
	}
	return m
}

// at: the partition p; the zero member, if there is none.
func (m *machine) at(p int) member {
	if !m.config.Has(p) {
		return member{}
	}
	return m.members[p]
}

// log: p sees that, at this tick.
func (m *machine) log(p, kind, a, b int) {
	m.members[p].Add(journal.Entry{Tick: m.tick, Kind: kind, A: a, B: b})
}

// halt: p is down, and what waited for it is gone.
func (m *machine) halt(p int) {
	m.members[p].Stop()
	m.Clear(p)
}

// start: p is up, as a new one, and what waited for it is gone.
func (m *machine) start(p int) {
	m.members[p].Restart()
	m.Clear(p)
}

// fault: one of p is seen, and what its act says is done about it.
func (m *machine) fault(p, kind int) {
	act, _ := m.members[p].Fault(kind)
	m.log(p, journal.Fault, kind, int(act))
	switch act {
	case conf.Stop:
		m.halt(p)
	case conf.Again:
		m.start(p)
	}
}

// words: of each kind of events, the kind of entries of the same name.
var words = [...]int{
	part.Ended:   journal.Ended,
	part.Over:    journal.Over,
	part.Missed:  journal.Missed,
	part.Rose:    journal.Rose,
	part.Dropped: journal.Dropped,
	part.Fell:    journal.Fell,
	part.Served:  journal.Served,
}

// heed: these events of p are seen, one by one, each with the fault that it is.
func (m *machine) heed(p int, l ...part.Event) {
	for _, e := range l {
		m.log(p, words[e.Kind], e.A, e.B)
		switch e.Kind {
		case part.Missed:
			m.fault(p, conf.Missed)
		case part.Over:
			m.fault(p, conf.Overrun)
		}
	}
}

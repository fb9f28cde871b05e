package kernel

import (
	"parclose/api"
	"parclose/gsched"
	"parclose/journal"
	"parclose/part"
	"parclose/tasks"
)

// servers: what is added to a server's number where it is told beside tasks.
const servers = 100

// step: the items that come in, one by one, and then the tick.
func (m *machine) step(l []Item) Report {
	r := Report{Tick: m.tick}
	for _, x := range l {
		r.Results = append(r.Results, m.take(x))
	}
	for p := range m.members {
		m.heed(p, m.members[p].Begin(m.tick)...)
	}
	r.Choice = m.choose()
	r.What = m.run(r.Choice)
	m.tick++
	return r
}

// take: an item is done; its result.
func (m *machine) take(x Item) api.Errno {
	// The one kind that is of all partitions.
	if x.Kind == Mark {
		m.mark(x.A)
		return api.OK
	}
	if !m.config.Has(x.Part) {
		return api.ErrArg
	}
	switch x.Kind {
	case Arrive:
		return m.arrive(x)
	case Ask:
		return m.ask(x)
	case Halt:
		m.halt(x.Part)
	case Start:
		m.start(x.Part)
	default:
		return api.ErrArg
	}
	m.log(x.Part, journal.Order, x.Kind, 0)
	return api.OK
}

func (m *machine) mark(a int) {
	for p := range m.members {
		m.log(p, journal.Mark, a, 0)
	}
}

func (m *machine) arrive(x Item) api.Errno {
	err := m.members[x.Part].Arrive(m.tick, tasks.Job{Task: x.A, Work: x.B, Ops: x.Ops})
	if err != api.OK {
		m.log(x.Part, journal.Refuse, x.A, int(err))
		return err
	}
	m.log(x.Part, journal.Accept, x.A, x.B)
	return api.OK
}

func (m *machine) ask(x Item) api.Errno {
	err := m.members[x.Part].Request(x.A, x.B)
	m.log(x.Part, journal.Ask, x.A, int(err))
	return err
}

// choose: who gets the tick, of those who have something to run; it is charged.
func (m *machine) choose() gsched.Choice {
	ready := make([]bool, len(m.members))
	for p := range m.members {
		_, ready[p] = m.members[p].Pick()
	}
	choice := m.At(m.tick, ready...)
	m.book.Charge(choice.Kind, choice.Owner, choice.Runner)
	return choice
}

// run: whoever was chosen runs, if somebody was; what it was.
func (m *machine) run(choice gsched.Choice) part.What {
	p := choice.Runner
	if !m.config.Has(p) {
		return part.What{}
	}
	// Asked ahead of the Run, which may change it.
	high := m.members[p].High()
	who, op, events := m.members[p].Run()
	if who.Server {
		m.log(p, journal.Ran, servers+who.N, choice.Owner)
	} else {
		m.log(p, journal.Ran, who.N, choice.Owner)
	}
	m.heed(p, events...)
	// A server's is the zero one, which is nothing.
	m.do(p, op, high)
	return who
}

package kernel

import (
	"parclose/api"
	"parclose/conf"
	"parclose/journal"
	"parclose/tasks"
)

// What stands beside OpRead in a log: the number that comes with a message, or why there was none.
const (
	readBeside = 30
	readNone   = 31
)

// do: an op of p's job is done, and told. high: was the mode, ahead of its Run?
func (m *machine) do(p int, op tasks.Op, high bool) {
	told := m.tick
	switch op.Kind {
	case OpNop:
	case OpRead:
		m.read(p, op.A)
	case OpWrite, OpAsk, OpMode:
		told = m.answer(p, op, high)
		fallthrough
	case OpClock:
		m.log(p, journal.Op, op.Kind, told)
	default:
		m.fault(p, conf.Odd)
	}
}

// answer: what a write, a request, or a look at the mode comes to.
func (m *machine) answer(p int, op tasks.Op, high bool) int {
	switch op.Kind {
	case OpWrite:
		return int(m.Write(p, op.A, op.B, m.tick))
	case OpAsk:
		return int(m.members[p].Request(op.A, op.B))
	}
	if high {
		return 1
	}
	return 0
}

func (m *machine) read(p, channel int) {
	message, beside, err := m.Read(p, channel, m.tick)
	if err != api.OK {
		m.log(p, journal.Op, readNone, int(err))
		return
	}
	m.log(p, journal.Op, OpRead, message)
	m.log(p, journal.Op, readBeside, beside)
}

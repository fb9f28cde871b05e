package part

import "parclose/tasks"

// events: one of a kind of each of these tasks.
func events(kind int, of ...int) []Event {
	var l []Event
	for _, task := range of {
		l = append(l, Event{Kind: kind, A: task})
	}
	return l
}

// runJob: a tick of a task's job is done; its Op, and what came of it.
func (p *Part) runJob(task int) (tasks.Op, []Event) {
	op, outcome := p.jobs.Run(task)
	switch outcome {
	case tasks.Ended:
		return op, p.leave(Ended, task)
	case tasks.Over:
		return op, p.leave(Over, task)
	case tasks.Rises:
		return op, p.rise()
	}
	return op, nil
}

// runServer: a tick of a server is done; what came of it.
func (p *Part) runServer(server int) []Event {
	number, served := p.desks[server].serve()
	if !served {
		return nil
	}
	return []Event{{Kind: Served, A: server, B: number}}
}

// leave: a task's job is gone, which may have been the last one.
func (p *Part) leave(kind, task int) []Event {
	return append(events(kind, task), p.settle()...)
}

// rise: the mode is high; all that is not of high tasks rests.
func (p *Part) rise() []Event {
	dropped := p.jobs.rise()
	for i := range p.desks {
		p.desks[i].Stop()
	}
	return append(events(Dropped, dropped...), Event{Kind: Rose})
}

// settle: if it may, it falls, and what rested goes on.
func (p *Part) settle() []Event {
	if !p.jobs.fall() {
		return nil
	}
	for i := range p.desks {
		p.desks[i].Resume()
	}
	return []Event{{Kind: Fell}}
}

package tasks

import (
	"parclose/api"
	"parclose/conf"
)

// seat: of a task, and its job, if that is there.
type seat struct {
	Job
	of conf.Task
}

// due: by when the job is to be done in this mode.
func (s *seat) due(high bool) int {
	if high {
		return s.deadline()
	}
	return s.Arrived + s.of.V
}

// deadline: by when it has to be done.
func (s *seat) deadline() int { return s.Arrived + s.of.D }

// spent: is its budget of this mode done?
func (s *seat) spent(high bool) bool {
	if high {
		return s.Done >= s.of.Top
	}
	return s.Done >= s.of.Lo
}

// rises: is there more for it, if the mode does?
func (s *seat) rises(high bool) bool { return !high && s.of.Hi && s.of.Top > s.of.Lo }

// right: may there be such a job, of a task that there is?
func (j *Job) right() bool {
	return j.Arrived >= 0 && j.Arrived <= api.MaxTick &&
		j.Work >= 1 && j.Work <= api.MaxWork &&
		j.Done == 0 && len(j.Ops) <= api.MaxOps
}

func (j *Job) ended() bool { return j.Done >= j.Work }

// run: one more tick is done; its Op, the zero one behind the last.
func (j *Job) run() Op {
	at := j.Done
	j.Done++
	if at >= len(j.Ops) {
		return Op{}
	}
	return j.Ops[at]
}

// apart: the same, with Ops of its own.
func (j *Job) apart() Job {
	own := *j
	own.Ops = append([]Op(nil), j.Ops...)
	return own
}

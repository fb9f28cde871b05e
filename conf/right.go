package conf

import "parclose/api"

// Right: may there be such a task?
func (t Task) Right() bool {
	// All of them lie between 1 and MaxPeriod, then, as each is held against the next one.
	if t.T > api.MaxPeriod || t.D > t.T || t.V > t.D || t.Lo > t.V || t.Lo < 1 {
		return false
	}
	if t.Top < t.Lo || t.Top > t.D {
		return false
	}
	// A low task has nothing left to give when the mode rises.
	return t.Hi || t.V == t.D && t.Top == t.Lo
}

// Right: may there be such a server?
func (s Server) Right() bool {
	return s.C >= 1 && s.C <= s.T && s.T <= api.MaxPeriod
}

// Rights: what is wrong with a partition, told by itself; OK, if nothing is.
func (a Part) Rights() api.Errno {
	switch {
	case len(a.Tasks) > api.MaxTasks || !allRight(a.Tasks):
		return api.ErrTask
	case len(a.Servers) > api.MaxServers || !allRight(a.Servers):
		return api.ErrServer
	case !a.knowsActs():
		return api.ErrHealth
	}
	return api.OK
}

// allRight: of tasks, or of servers.
func allRight[T interface{ Right() bool }](l []T) bool {
	for _, x := range l {
		if !x.Right() {
			return false
		}
	}
	return true
}

func (a Part) knowsActs() bool {
	for _, act := range a.Acts {
		if act > Again {
			return false
		}
	}
	return true
}

package valid

import (
	"parclose/api"
	"parclose/conf"
)

// look: what is wrong, and at which number; OK and 0, if nothing is.
type look func() (api.Errno, int)

// first: what the first of some looks tells that finds anything.
func first(looks ...look) (api.Errno, int) {
	for _, l := range looks {
		if err, at := l(); err != api.OK {
			return err, at
		}
	}
	return api.OK, 0
}

// must: a look that finds an error, there, unless all is well.
func must(well bool, err api.Errno, at int) look {
	return func() (api.Errno, int) {
		if well {
			return api.OK, 0
		}
		return err, at
	}
}

// each: a look at so many things, one behind the other, that finds the first one of which an error is told.
func each(n int, wrong func(i int) api.Errno) look {
	return func() (api.Errno, int) {
		for i := range n {
			if err := wrong(i); err != api.OK {
				return err, i
			}
		}
		return api.OK, 0
	}
}

// windows: a look at each window.
func windows(c conf.Config) look {
	end := 0
	return each(len(c.Windows), func(i int) api.Errno {
		w := c.Windows[i]
		// What is left of the frame is asked, as At and Len may together be more than an int holds.
		if w.At < end || w.Len < 1 || w.Len > c.Frame-w.At || !c.Has(w.Part) {
			return api.ErrWindow
		}
		end = w.At + w.Len
		return api.OK
	})
}

// parts: a look at each partition, whose rights are told ahead of its donees.
func parts(c conf.Config) look {
	return each(len(c.Parts), func(p int) api.Errno {
		if err := c.Parts[p].Rights(); err != api.OK {
			return err
		}
		if !c.Names(p, c.Parts[p].Donees...) {
			return api.ErrDonee
		}
		return api.OK
	})
}

// channels: a look at each channel.
func channels(c conf.Config) look {
	return each(len(c.Chans), func(i int) api.Errno {
		x := c.Chans[i]
		if !c.Names(x.From, x.To) || !within(x.Size, 1, mostSize(x)) {
			return api.ErrChannel
		}
		return api.OK
	})
}

// mostSize: messages of a queue, ticks of another channel.
func mostSize(x conf.Channel) int {
	if x.Queue {
		return api.MaxDepth
	}
	return api.MaxPeriod
}

func within(n, least, most int) bool { return n >= least && n <= most }

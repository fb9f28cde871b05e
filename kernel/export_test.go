package kernel

import "parclose/conf"

// Lay: a kernel of a system that may be, whether it boots or not: in one that does no job is missed, so what is done about that is seen in others alone.
func Lay(c conf.Config, start int) *Kernel { return &Kernel{newMachine(conf.Clone(c), start)} }

package conf

import "slices"

// Same: are all fields the same? An empty list is the same as none.
func Same(a, b Config) bool {
	return a.Frame == b.Frame && a.Margin == b.Margin &&
		slices.Equal(a.Windows, b.Windows) &&
		slices.EqualFunc(a.Parts, b.Parts, samePart) &&
		slices.Equal(a.Chans, b.Chans)
}

func samePart(a, b Part) bool {
	return slices.Equal(a.Tasks, b.Tasks) &&
		slices.Equal(a.Servers, b.Servers) &&
		slices.Equal(a.Donees, b.Donees) &&
		a.Acts == b.Acts
}

// Clone: one that is the same, and shares nothing with it.
func Clone(c Config) Config {
	c.Windows = apart(c.Windows)
	c.Parts = apart(c.Parts)
	for i, part := range c.Parts {
		c.Parts[i] = clonePart(part)
	}
	c.Chans = apart(c.Chans)
	return c
}

func clonePart(a Part) Part {
	a.Tasks = apart(a.Tasks)
	a.Servers = apart(a.Servers)
	a.Donees = apart(a.Donees)
	return a
}

// apart: not by slices.Clone, which of an empty list answers one that still lies in the same room.
func apart[T any](l []T) []T { return append([]T(nil), l...) }

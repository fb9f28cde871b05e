package refill

// chunks: what a budget has in live ones, the first one first. Ticks are left of each.
type chunks struct {
	live []Chunk
}

func (c *chunks) none() bool { return len(c.live) == 0 }

func (c *chunks) first() Chunk { return c.live[0] }

// left: so many ticks are, of all of them.
func (c *chunks) left() int {
	n := 0
	for _, x := range c.live {
		n += x.Left
	}
	return n
}

// lay: so many ticks are a chunk from now on, behind the others.
func (c *chunks) lay(now, ticks int) {
	c.live = append(c.live, Chunk{At: now, Left: ticks})
}

// use: a tick of the first one is used; it is live no more, if that was its last one.
func (c *chunks) use() {
	c.live[0].Left--
	if c.live[0].Left == 0 {
		c.live = c.live[1:]
	}
}

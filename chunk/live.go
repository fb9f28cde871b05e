package chunk

// chunks: what a budget has in live ones, the first one first. Ticks are left of each.
type chunks struct {
	live []Chunk
}

func (c *chunks) none() bool { return len(c.live) == 0 }

func (c *chunks) first() Chunk { return c.live[0] }

// lay: so many ticks are a chunk from now on, behind the others.
func (c *chunks) lay(now, ticks int) {
	c.live = append(c.live, Chunk{At: now, Left: ticks})
}

// use: a tick of the first one is used.
func (c *chunks) use() {
	c.live[0].Left--
	c.live[0].Used++
}

// take: the first one, which is live no more.
func (c *chunks) take() Chunk {
	first := c.first()
	c.live = c.live[1:]
	return first
}

package chunk_test

import (
	"testing"

	"parclose/chunk"
	"parclose/conf"
)

// isNone holds a Budget that is none to its answers.
func isNone(t *testing.T, what string, c *chunk.Budget) {
	t.Helper()
	if n, ok := c.Due(); n != 0 || ok {
		t.Errorf("%s: Due: %d, %v", what, n, ok)
	}
	if n := c.Free(); n != 0 {
		t.Errorf("%s: Free: %d", what, n)
	}
	if l := c.Live(); len(l) != 0 {
		t.Errorf("%s: Live: %v", what, l)
	}
	if l := c.Backs(); len(l) != 0 {
		t.Errorf("%s: Backs: %v", what, l)
	}
	if c.Use() {
		t.Errorf("%s: Use: true", what)
	}
	if t.Failed() {
		t.FailNow()
	}
}

// staysNone: the same, behind each call, with whatever it is handed.
func staysNone(t *testing.T, what string, c *chunk.Budget) {
	t.Helper()
	isNone(t, what, c)
	for _, call := range []func(){c.Done, c.Stop, c.Resume, c.Reset, c.Stop, c.Stop, c.Reset, c.Resume, c.Done} {
		call()
		isNone(t, what, c)
		for _, now := range numbers {
			for _, busy := range []bool{true, false, true} {
				c.Go(now, busy)
				isNone(t, what, c)
			}
		}
	}
}

func TestP1701NilBudget(t *testing.T) {
	staysNone(t, "a nil Budget", nil)
}

func TestP1701BudgetsThatNewDidNotMake(t *testing.T) {
	var c chunk.Budget
	made := chunk.New(server(3, 10))
	made.Go(5, true)
	made.Use()
	made.Stop()
	made.Resume()
	made.Go(6, true)
	*made = chunk.Budget{}
	for what, a := range map[string]*chunk.Budget{"the zero Budget": &c, "a new Budget": new(chunk.Budget), "a literal": {}, "one that was made zero": made} {
		staysNone(t, what, a)
	}
}

func TestP1702NewOfOneThatIsNotRight(t *testing.T) {
	wrong := []conf.Server{
		{}, {Refill: true}, server(0, 10), server(-1, 10), server(11, 10), server(1, 0), server(0, 0), server(1, -1), server(-1, -1), server(-2, -1),
		server(1, maxPeriod+1), server(maxPeriod+1, maxPeriod+1), server(maxPeriod+1, maxPeriod), server(1, maxTick), server(maxTick, maxTick), server(3, 2),
	}
	for _, n := range numbers {
		wrong = append(wrong, conf.Server{C: n, T: 0}, conf.Server{C: n, T: -1}, conf.Server{C: n, T: maxPeriod + 1})
		if n < 1 || n > maxPeriod {
			wrong = append(wrong, server(n, maxPeriod), server(1, n), server(n, n))
		}
	}
	for _, s := range wrong {
		for _, refill := range []bool{false, true} {
			s.Refill = refill
			if s.Right() {
				t.Fatalf("%v is right", s)
			}
			if chunk.New(s) != nil {
				t.Errorf("New of %v: not nil", s)
			}
		}
	}
	staysNone(t, "what New tells of one that is not right", chunk.New(conf.Server{}))
}

// servers: of C 1, and up to as many as T; of the least and the greatest T.
func servers() []conf.Server {
	return []conf.Server{
		server(1, 1), server(1, 2), server(2, 2), server(1, 10), server(3, 10), server(9, 10), server(10, 10),
		server(1, maxPeriod), server(7, maxPeriod), server(maxPeriod-1, maxPeriod), server(maxPeriod, maxPeriod), server(maxPeriod-1, maxPeriod-1),
	}
}

func TestP1702NewOfOneThatIsRight(t *testing.T) {
	for _, s := range servers() {
		// What is filled again is another package's; here such a server is as any.
		for _, refill := range []bool{false, true} {
			s.Refill = refill
			b := newBoth(t, s)
			tells(t, "at first", b.c, s.C, nil, nil)
			b.look()
			b.goTo(0, false)
			b.look()
			b.goTo(0, true)
			b.look()
			if n, ok := b.c.Due(); n != s.T || !ok {
				t.Errorf("Due: %d, %v", n, ok)
			}
			b.use(s.C)
			b.look()
			b.use(1)
			b.goTo(s.T-1, true)
			b.look()
			b.goTo(s.T, true)
			b.look()
			tells(t, "a period later", b.c, 0, []chunk.Chunk{{At: s.T, Left: s.C}}, nil)
			b.stop("New")
		}
	}
}

func TestP1702NewOfAllShortServers(t *testing.T) {
	for period := -1; period <= 12; period++ {
		for ticks := -1; ticks <= 13; ticks++ {
			s := server(ticks, period)
			is := chunk.New(s) != nil
			if want := 1 <= ticks && ticks <= period; is != want {
				t.Errorf("New of %v: made: %v", s, is)
			}
		}
	}
}

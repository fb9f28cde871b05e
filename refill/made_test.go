package refill_test

import (
	"testing"

	"parclose/conf"
	"parclose/refill"
)

// isNone holds a Budget that is none to its answers.
func isNone(t *testing.T, what string, c *refill.Budget) {
	t.Helper()
	dueNever(t, what, c)
	tells(t, what, c, 0)
	if c.Use() {
		t.Errorf("%s: Use: true", what)
	}
	if t.Failed() {
		t.FailNow()
	}
}

// staysNone: the same, behind each call, with whatever it is handed.
func staysNone(t *testing.T, what string, c *refill.Budget) {
	t.Helper()
	isNone(t, what, c)
	for _, call := range []func(){c.Done, c.Stop, c.Resume, c.Reset, c.Stop, c.Stop, c.Reset, c.Resume, c.Done} {
		call()
		isNone(t, what, c)
		for _, now := range numbers {
			for _, busy := range []bool{true, false, true} {
				c.Go(now, busy)
				isNone(t, what, c)
			}
		}
	}
}

func TestP1801NilBudget(t *testing.T) {
	staysNone(t, "a nil Budget", nil)
}

func TestP1801BudgetsThatNewDidNotMake(t *testing.T) {
	var c refill.Budget
	made := refill.New(server(3, 10), 2)
	made.Go(5, true)
	made.Use()
	made.Stop()
	made.Resume()
	made.Go(6, true)
	*made = refill.Budget{}
	for what, a := range map[string]*refill.Budget{"the zero Budget": &c, "a new Budget": new(refill.Budget), "a literal": {}, "one that was made zero": made} {
		staysNone(t, what, a)
	}
}

func TestP1802NewOfOneThatIsNotRight(t *testing.T) {
	wrong := []conf.Server{
		{}, server(0, 10), server(-1, 10), server(11, 10), server(1, 0), server(0, 0), server(1, -1), server(-1, -1), server(-2, -1),
		server(1, maxPeriod+1), server(maxPeriod+1, maxPeriod+1), server(maxPeriod+1, maxPeriod), server(1, maxTick), server(maxTick, maxTick), server(3, 2),
	}
	for _, n := range numbers {
		wrong = append(wrong, server(n, 0), server(n, -1), server(n, maxPeriod+1))
		if n < 1 || n > maxPeriod {
			wrong = append(wrong, server(n, maxPeriod), server(1, n), server(n, n))
		}
	}
	for _, s := range wrong {
		for _, again := range []bool{false, true} {
			s.Refill = again
			if s.Right() {
				t.Fatalf("%v is right", s)
			}
			for _, start := range []int{-1, 0, 1, maxTick, maxTick + 1} {
				if refill.New(s, start) != nil {
					t.Errorf("New of %v, %d: not nil", s, start)
				}
			}
		}
	}
	staysNone(t, "what New tells of one that is not right", refill.New(conf.Server{}, 0))
}

func TestP1802NewOfAllShortServers(t *testing.T) {
	for period := -1; period <= 12; period++ {
		for ticks := -1; ticks <= 13; ticks++ {
			s := server(ticks, period)
			is := refill.New(s, 0) != nil
			if want := 1 <= ticks && ticks <= period; is != want {
				t.Errorf("New of %v: made: %v", s, is)
			}
		}
	}
}

func TestP1802NewOfEachStart(t *testing.T) {
	for _, s := range servers() {
		for _, start := range numbers {
			c := refill.New(s, start)
			want := 0 <= start && start <= maxTick
			if is := c != nil; is != want {
				t.Errorf("New of %v, %d: made: %v", s, start, is)
			}
			if want {
				tells(t, "at first", c, s.C)
				dueNever(t, "at first", c)
			}
		}
	}
	staysNone(t, "what New tells of a start below 0", refill.New(server(3, 10), -1))
	staysNone(t, "what New tells of a start above MaxTick", refill.New(server(3, 10), maxTick+1))
}

// servers: of C 1, and up to as many as T; of the least and the greatest T.
func servers() []conf.Server {
	return []conf.Server{
		server(1, 1), server(1, 2), server(2, 2), server(1, 10), server(3, 10), server(9, 10), server(10, 10),
		server(1, maxPeriod), server(7, maxPeriod), server(maxPeriod-1, maxPeriod), server(maxPeriod, maxPeriod), server(maxPeriod-1, maxPeriod-1),
	}
}

// starts: from the least one to the greatest one.
func starts() []int { return []int{0, 1, 7, 1<<32 - 3, maxTick - 1, maxTick} }

func TestP1802NewOfOneThatIsRight(t *testing.T) {
	for _, s := range servers() {
		// What is back later is another package's; here such a server is as any.
		for _, again := range []bool{false, true} {
			for _, start := range starts() {
				s.Refill = again
				b := newBoth(t, s, start)
				b.look()
				b.goTo(start, false)
				b.look()
				tells(t, "not busy", b.c, s.C)
				b.goTo(start, true)
				b.look()
				dueAt(t, "busy", b.c, start+s.T)
				b.use(s.C)
				b.look()
				b.use(1)
				tells(t, "all are used", b.c, 0)
				b.goTo(start+s.T-1, true)
				b.look()
				b.goTo(start+s.T, true)
				b.look()
				tells(t, "a period later", b.c, 0, refill.Chunk{At: start + s.T, Left: s.C})
				dueAt(t, "a period later", b.c, start+2*s.T)
				b.stop("New")
			}
		}
	}
}

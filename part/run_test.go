package part_test

import (
	"testing"

	"parclose/api"
	"parclose/conf"
	"parclose/part"
	"parclose/tasks"
)

func TestP2004PickOfNobody(t *testing.T) {
	for _, a := range []conf.Part{{}, of(mixed()...), serving(refilled(1, 3)), whole()} {
		b := newBoth(t, a, 0)
		for now := range 12 {
			b.runsNobody()
			b.begin(now)
			b.runsNobody()
			b.look()
		}
		b.halt()
		b.runsNobody()
		b.restart()
		b.runsNobody()
		b.stop("nobody")
	}
}

func TestP2004PickOfJobsAlone(t *testing.T) {
	// V of the six is 8, 12, 5, 1, 9, 1000, D 15, 12, 30, 1, 15, 1000.
	b := newBoth(t, whole(), 0)
	for _, x := range []struct{ task, now, first int }{{5, 0, 5}, {1, 10, 1}, {4, 12, 4}, {0, 12, 0}, {2, 20, 0}, {3, 19, 0}} {
		b.arrives(x.now, jobOf(x.task, 1), api.OK)
		b.picks(job(x.first))
	}
	// Of one time, 20, 3 comes behind 0, though it came last, and ahead of 4, at 21.
	for _, task := range []int{0, 3, 4, 1, 2, 5} {
		b.picks(job(task))
		b.runs(job(task), ended(task))
	}
	b.runsNobody()
	b.stop("jobs alone")
}

func TestP2004PickOfJobsByTheMode(t *testing.T) {
	// By V 1 is ahead, by D 0 is.
	l := []conf.Task{{Hi: true, T: 50, D: 12, V: 10, Lo: 2, Top: 4}, {Hi: true, T: 50, D: 40, V: 5, Lo: 2, Top: 4}, {Hi: true, T: 50, D: 12, V: 12, Lo: 1, Top: 1}}
	b := newBoth(t, of(l...), 0)
	b.arrives(0, jobOf(0, 3), api.OK)
	b.arrives(0, jobOf(1, 3), api.OK)
	b.arrives(0, jobOf(2, 1), api.OK)
	b.runs(job(1))
	b.runs(job(1), rose)
	// Of one time the lowest task.
	b.picks(job(0))
	for range 2 {
		b.runs(job(0))
	}
	b.runs(job(0), ended(0))
	b.runs(job(2), ended(2))
	b.runs(job(1), ended(1), fell)
	b.look()
	b.stop("by the mode")
}

func TestP2004PickOfRequestsAlone(t *testing.T) {
	for kind := range 2 {
		of := []func(c, t int) conf.Server{plainServer, refilled}[kind]
		b := newBoth(t, serving(of(2, 10), of(1, 8), of(1, 8)), 0)
		b.requests(0, 5, api.OK)
		b.requests(2, 5, api.OK)
		// Without a live chunk there is nobody.
		b.runsNobody()
		b.begins(0)
		b.picks(server(2))
		// One that comes behind a Begin waits for the next one.
		b.requests(1, 5, api.OK)
		b.picks(server(2))
		b.runs(server(2))
		b.runs(server(0))
		b.begins(1)
		b.runs(server(1))
		b.runs(server(0))
		b.runsNobody()
		for now := 2; now < 40; now++ {
			b.begin(now)
			b.run()
			b.look()
		}
		b.stop("requests alone")
	}
}

func TestP2004PickOfRequestsOfOneTime(t *testing.T) {
	for _, of := range []func(c, t int) conf.Server{plainServer, refilled} {
		b := newBoth(t, serving(of(1, 10), of(1, 10), of(1, 10)), 0)
		for at := maxServers - 1; at >= 0; at-- {
			b.requests(at, 1, api.OK)
		}
		b.begins(3)
		for at := range maxServers {
			b.picks(server(at))
			b.runs(server(at), served(at, 1))
		}
		b.runsNobody()
		b.stop("one time")
	}
}

func TestP2004PickOfBoth(t *testing.T) {
	for _, of := range []func(c, t int) conf.Server{plainServer, refilled} {
		// The job is due at V behind 10, the servers T behind 10; each about the other.
		for v := 1; v <= 20; v++ {
			for period := 1; period <= 20; period++ {
				a := conf.Part{Tasks: []conf.Task{low(), {Hi: true, T: 50, D: 40, V: v, Lo: 1, Top: 1}}, Servers: []conf.Server{of(1, 20), of(1, period)}}
				b := newBoth(t, a, 10)
				b.arrives(10, jobOf(1, 1), api.OK)
				b.requests(1, 1, api.OK)
				b.begins(10)
				first, behind := job(1), server(1)
				firstEvent, behindEvent := ended(1), served(1, 1)
				if period < v {
					first, behind, firstEvent, behindEvent = behind, first, behindEvent, firstEvent
				}
				b.picks(first)
				b.runs(first, firstEvent)
				b.runs(behind, behindEvent)
				b.runsNobody()
				b.stop("both")
			}
		}
	}
}

func TestP2004AServerIsDueByItsFirstChunk(t *testing.T) {
	// 1 tick is left of a chunk of 0, as 2 of its 3 are used; what is filled at 10 is a chunk behind it.
	a := conf.Part{Tasks: []conf.Task{{T: 30, D: 14, V: 14, Lo: 9, Top: 9}}, Servers: []conf.Server{refilled(3, 10)}}
	b := newBoth(t, a, 0)
	b.requests(0, 20, api.OK)
	b.begins(8)
	b.runs(server(0))
	b.runs(server(0))
	b.begins(10)
	b.arrives(5, jobOf(0, 2), api.OK)
	// 18 ahead of 19, and then 20.
	b.runs(server(0))
	b.runs(job(0))
	b.runs(job(0), ended(0))
	b.runs(server(0))
	b.runs(server(0))
	b.runsNobody()
	b.stop("its first chunk")
}

func TestP2004PickChangesNothing(t *testing.T) {
	b := newBoth(t, whole(), 0)
	for task := range maxTasks {
		b.arrive(0, jobOf(task, 1))
	}
	b.request(0, 2)
	b.request(1, 2)
	b.begin(0)
	for range 12 {
		for range 5 {
			b.pick()
		}
		b.run()
	}
	b.nobody()
	b.stop("changes nothing")
}

func TestP2004RunOfAJobThatGoesOn(t *testing.T) {
	ops := opsOf(10, 4)
	b := newBoth(t, of(low(), long()), 0)
	b.arrives(0, jobOf(1, 9, ops...), api.OK)
	for i := range 8 {
		want := tasks.Op{}
		if i < len(ops) {
			want = ops[i]
		}
		if who, op, l := b.run(); who != job(1) || op != want || len(l) != 0 {
			t.Errorf("tick %d: Run: %v, %v, %v", i, who, op, l)
		}
		if l := b.c.Jobs(); len(l) != 1 || l[0].Done != i+1 {
			t.Errorf("tick %d: Jobs: %v", i, l)
		}
		b.look()
	}
	b.runs(job(1), ended(1))
	b.runsNobody()
	b.stop("goes on")
}

func TestP2004RunOfAJobThatEnds(t *testing.T) {
	for task, x := range mixed() {
		for work := 1; work <= min(x.Lo, 8); work++ {
			for _, ops := range [][]tasks.Op{nil, opsOf(5, work-1), opsOf(5, work), opsOf(5, work+1)} {
				b := newBoth(t, whole(), 0)
				b.arrives(0, jobOf(task, work, ops...), api.OK)
				for range work - 1 {
					b.runs(job(task))
				}
				want := tasks.Op{}
				if len(ops) >= work {
					want = ops[work-1]
				}
				// Its Op is told with its end, and nothing falls in low mode.
				if who, op, l := b.run(); who != job(task) || op != want || len(l) != 1 || l[0] != ended(task) {
					t.Errorf("Run: %v, %v, %v", who, op, l)
				}
				b.runsNobody()
				b.look()
				b.stop("ends")
			}
		}
	}
}

func TestP2004RunOfAJobThatIsOver(t *testing.T) {
	ops := opsOf(3, maxOps)
	for task, x := range mixed() {
		if x.Top > x.Lo {
			continue
		}
		for _, work := range []int{x.Lo + 1, x.Lo + 2, maxWork} {
			b := newBoth(t, whole(), 0)
			b.arrives(0, jobOf(task, work, ops...), api.OK)
			for range x.Lo - 1 {
				b.runs(job(task))
			}
			want := tasks.Op{}
			if x.Lo <= maxOps {
				want = ops[x.Lo-1]
			}
			if who, op, l := b.run(); who != job(task) || op != want || len(l) != 1 || l[0] != over(task) {
				t.Errorf("Run: %v, %v, %v", who, op, l)
			}
			b.runsNobody()
			b.arrives(x.T, jobOf(task, 1), api.OK)
			b.look()
			b.stop("over")
		}
	}
}

func TestP2004RunOfAJobThatRises(t *testing.T) {
	b := newBoth(t, whole(), 0)
	ops := opsOf(30, 9)
	b.arrives(0, jobOf(2, 4, ops...), api.OK)
	for _, task := range []int{5, 4, 1, 0} {
		b.arrives(0, jobOf(task, 2), api.OK)
	}
	b.requests(0, 2, api.OK)
	b.requests(1, 2, api.OK)
	b.requests(2, 2, api.OK)
	b.begins(0)
	// 2 of the servers is due at 4, ahead of 2 of the tasks, at 5.
	b.runs(server(2))
	// Its Op, an event of each job that is gone, by tasks, and Rose behind them.
	if who, op, l := b.run(); who != job(2) || op != ops[0] || len(l) != 3 || l[0] != dropped(1) || l[1] != dropped(5) || l[2] != rose {
		t.Errorf("Run: %v, %v, %v", who, op, l)
	}
	if !b.c.High() || !b.c.Up() {
		t.Error("it is low, or down")
	}
	if l := b.c.Jobs(); len(l) != 3 || l[0].Task != 0 || l[1].Task != 2 || l[2].Task != 4 {
		t.Errorf("Jobs: %v", l)
	}
	for _, task := range []int{1, 3, 5} {
		b.arrives(9, jobOf(task, 1), api.ErrDropped)
	}
	b.look()
	// All budgets are stopped: their chunks are live no more, and no others begin.
	b.picks(job(0))
	for now := 1; now < 4; now++ {
		b.begins(now)
		if who, _ := b.pick(); who.Server {
			t.Errorf("at %d: server %d is picked", now, who.N)
		}
		b.run()
	}
	b.runs(job(4), ended(4))
	b.stop("rises")
}

func TestP2004RoseWithNoneDropped(t *testing.T) {
	b := newBoth(t, of(high(), level(), low()), 0)
	b.arrives(0, jobOf(0, 5), api.OK)
	b.arrives(0, jobOf(1, 1), api.OK)
	b.runs(job(0))
	b.runs(job(0))
	b.runs(job(0), rose)
	b.runs(job(0))
	// It settles, just behind the last one.
	b.runs(job(0), ended(0))
	b.runs(job(1), ended(1), fell)
	b.look()
	b.stop("none dropped")
}

func TestP2004OverInHighModeSettles(t *testing.T) {
	b := newBoth(t, of(high(), low(), level()), 0)
	b.arrives(0, jobOf(0, 9, opsOf(0, 9)...), api.OK)
	b.runs(job(0))
	b.runs(job(0))
	b.runs(job(0), rose)
	b.arrives(0, jobOf(2, 9), api.OK)
	b.runs(job(0))
	b.runs(job(0))
	// Another one is there still.
	b.runs(job(0), over(0))
	for range 3 {
		b.runs(job(2))
	}
	b.runs(job(2), over(2), fell)
	b.arrives(1, jobOf(1, 1), api.OK)
	b.runs(job(1), ended(1))
	b.look()
	b.stop("over in high mode")
}

func TestP2004ARiseEndsAllChunks(t *testing.T) {
	for _, s := range []conf.Server{plainServer(3, 20), refilled(3, 20)} {
		a := of(conf.Task{Hi: true, T: 40, D: 30, V: 18, Lo: 1, Top: 3})
		a.Servers = []conf.Server{s}
		b := newBoth(t, a, 0)
		b.requests(0, 9, api.OK)
		b.begins(0)
		b.runs(server(0))
		b.arrives(0, jobOf(0, 3), api.OK)
		b.runs(job(0), rose)
		b.begins(1)
		b.runs(job(0))
		b.runs(job(0), ended(0), fell)
		// Of the chunk two were left, which are free; none is live till the next Begin.
		b.runsNobody()
		b.begins(5)
		b.runs(server(0))
		b.runs(server(0))
		b.runsNobody()
		b.begins(19)
		b.nobody()
		// The one that was used of it is back when it was due, or when the next period begins.
		b.begins(20)
		b.runs(server(0))
		if !s.Refill {
			b.runsNobody()
			b.begins(24)
			b.nobody()
			b.begins(25)
		}
		b.runs(server(0))
		b.runs(server(0))
		b.runsNobody()
		b.look()
		b.stop("ends all chunks")
	}
}

func TestP2004RunOfAServer(t *testing.T) {
	for _, s := range []conf.Server{plainServer(6, 10), refilled(6, 10)} {
		b := newBoth(t, serving(plainServer(1, 10), s), 0)
		b.requests(1, 2, api.OK)
		b.requests(1, 1, api.OK)
		b.requests(1, 4, api.OK)
		b.begins(0)
		b.runs(server(1))
		if n := b.c.Queue(1); n != 3 {
			t.Errorf("Queue: %d", n)
		}
		b.runs(server(1), served(1, 1))
		if n := b.c.Queue(1); n != 2 {
			t.Errorf("Queue: %d", n)
		}
		b.runs(server(1), served(1, 2))
		b.runs(server(1))
		b.runs(server(1))
		b.runs(server(1))
		// All of the six are used, and one tick of work is left.
		b.runsNobody()
		if n := b.c.Queue(1); n != 1 {
			t.Errorf("Queue: %d", n)
		}
		b.begins(9)
		b.nobody()
		b.begins(10)
		b.runs(server(1), served(1, 3))
		b.runsNobody()
		b.look()
		b.stop("a server")
	}
}

func TestP2004ABudgetIsDoneWhereNoRequestIsLeft(t *testing.T) {
	for _, s := range []conf.Server{plainServer(4, 10), refilled(4, 10)} {
		a := of(conf.Task{T: 30, D: 12, V: 12, Lo: 5, Top: 5})
		a.Servers = []conf.Server{s}
		b := newBoth(t, a, 0)
		b.requests(0, 1, api.OK)
		b.requests(0, 1, api.OK)
		b.begins(0)
		b.runs(server(0), served(0, 1))
		// One is left: the chunk is live still, and one that comes now goes on in it.
		b.requests(0, 1, api.OK)
		b.runs(server(0), served(0, 2))
		b.runs(server(0), served(0, 3))
		// None is: what is left of it is free, and one that comes waits for a chunk of its own, due later.
		b.requests(0, 1, api.OK)
		b.runsNobody()
		b.arrives(1, jobOf(0, 5), api.OK)
		b.begins(5)
		b.picks(job(0))
		for range 4 {
			b.runs(job(0))
		}
		b.runs(job(0), ended(0))
		b.runs(server(0), served(0, 4))
		b.runsNobody()
		b.stop("done")
	}
}

func TestP2004BothKindsOfBudgets(t *testing.T) {
	// 2 of 2 are used from 8 on: of the plain one they are back at 18, of the other one at 10.
	b := newBoth(t, serving(plainServer(2, 10), refilled(2, 10)), 0)
	b.requests(0, 9, api.OK)
	b.requests(1, 9, api.OK)
	b.begins(8)
	b.runs(server(0))
	b.runs(server(0))
	b.runs(server(1))
	b.runs(server(1))
	b.runsNobody()
	b.begins(9)
	b.nobody()
	b.begins(10)
	b.runs(server(1))
	b.runs(server(1))
	b.runsNobody()
	b.begins(17)
	b.nobody()
	b.begins(18)
	b.runs(server(0))
	b.runs(server(0))
	b.runsNobody()
	b.begins(20)
	b.runs(server(1))
	b.runs(server(1))
	b.runsNobody()
	b.look()
	b.stop("both kinds")
}

func TestP2004RunOfOneThatIsDown(t *testing.T) {
	b := newBoth(t, whole(), 0)
	for task := range maxTasks {
		b.arrive(0, jobOf(task, 1))
	}
	b.request(0, 1)
	b.begin(0)
	b.halt()
	for range 3 {
		b.runsNobody()
	}
	b.restart()
	b.runsNobody()
	b.stop("down")
}

// The chapter's example.
func TestP2004TheExample(t *testing.T) {
	c := part.New(of(conf.Task{T: 10, D: 10, V: 10, Lo: 2, Top: 2}), 0)
	if err := c.Arrive(0, jobOf(0, 2)); err != api.OK {
		t.Fatal(err)
	}
	if l := c.Begin(0); len(l) != 0 {
		t.Error(l)
	}
	if who, ok := c.Pick(); who != (part.What{}) || !ok {
		t.Error(who, ok)
	}
	if who, op, l := c.Run(); who != (part.What{}) || op != (tasks.Op{}) || len(l) != 0 {
		t.Error(who, op, l)
	}
	if who, op, l := c.Run(); who != (part.What{}) || op != (tasks.Op{}) || len(l) != 1 || l[0] != (part.Event{Kind: part.Ended}) {
		t.Error(who, op, l)
	}
	if who, ok := c.Pick(); who != (part.What{}) || ok {
		t.Error(who, ok)
	}
}

package police_test

import (
	"testing"

	"parclose/api"
	"parclose/conf"
	"parclose/police"
)

// kinds: of so many tasks, those whose bit is set are high ones.
func kinds(n, bits int) []conf.Task {
	var l []conf.Task
	for task := range n {
		if bits>>task&1 == 1 {
			l = append(l, other(true, 10+task))
		} else {
			l = append(l, other(false, 10+task))
		}
	}
	return l
}

func TestP1602JustTheLowOnesAreDropped(t *testing.T) {
	for n := range maxTasks + 1 {
		for bits := range 1 << n {
			b := newBoth(t, kinds(n, bits)...)
			for _, drops := range []bool{false, true, true, false, false, true, false} {
				b.drop(drops)
				for task := range n {
					low := bits>>task&1 == 0
					if is := b.p.Dropped(task); is != (drops && low) {
						t.Errorf("Drop(%v), low %v: Dropped(%d): %v", drops, low, task, is)
					}
					want := api.OK
					if drops && low {
						want = api.ErrDropped
					}
					if err := b.p.May(task, 5); err != want {
						t.Errorf("Drop(%v), low %v: May(%d, 5): %d", drops, low, task, err)
					}
				}
				b.look()
			}
			b.lookFar()
			b.stop("Drop")
		}
	}
}

func TestP1602TakeOfOneThatIsDropped(t *testing.T) {
	for bits := range 1 << maxTasks {
		b := newBoth(t, kinds(maxTasks, bits)...)
		now := 0
		for _, drops := range []bool{true, false, true, true, false, false, true} {
			now += 30
			b.drop(drops)
			for task := range maxTasks {
				want := api.OK
				if drops && bits>>task&1 == 0 {
					want = api.ErrDropped
				}
				if err := b.p.Take(task, now); err != want {
					t.Errorf("Drop(%v): Take(%d, %d) of kinds %b: %d", drops, task, now, bits, err)
				}
				b.b.take(task, now)
			}
			b.look()
			b.stop("Take")
		}
	}
}

func TestP1602DroppedOfWhatIsNone(t *testing.T) {
	for n := range maxTasks + 1 {
		p := police.New(kinds(n, 0)...)
		p.Drop(true)
		for _, task := range append([]int{-n, n, n + 1}, numbers...) {
			if is := p.Dropped(task); is != (task >= 0 && task < n) {
				t.Errorf("Dropped(%d) of %d: %v", task, n, is)
			}
		}
	}
}

// Of a high task and a low one, both accepted at 100, of T 10 and 11.
func TestP1602WhichErrorComes(t *testing.T) {
	rows := []struct {
		drops     bool
		task, now int
		want      api.Errno
	}{
		{false, 0, 110, api.OK}, {false, 0, 109, api.ErrSoon}, {false, 0, 99, api.ErrSoon}, {false, 0, 0, api.ErrSoon}, {false, 0, -1, api.ErrArg}, {false, 0, maxTick + 1, api.ErrArg},
		{false, 1, 111, api.OK}, {false, 1, 110, api.ErrSoon}, {false, 1, 99, api.ErrSoon}, {false, 1, 0, api.ErrSoon}, {false, 1, -1, api.ErrArg}, {false, 1, maxTick + 1, api.ErrArg},
		// A high one is not dropped.
		{true, 0, 110, api.OK}, {true, 0, 109, api.ErrSoon}, {true, 0, 100, api.ErrSoon}, {true, 0, 0, api.ErrSoon}, {true, 0, -1, api.ErrArg}, {true, 0, maxTick + 1, api.ErrArg},
		// Of a low one, dropped is told ahead of too soon, and what is no tick ahead of both.
		{true, 1, 111, api.ErrDropped}, {true, 1, 110, api.ErrDropped}, {true, 1, 100, api.ErrDropped}, {true, 1, 0, api.ErrDropped}, {true, 1, maxTick, api.ErrDropped},
		{true, 1, -1, api.ErrArg}, {true, 1, -maxTick, api.ErrArg}, {true, 1, maxTick + 1, api.ErrArg},
		{true, 2, 110, api.ErrArg}, {true, -1, 110, api.ErrArg}, {true, 2, 100, api.ErrArg}, {true, 2, -1, api.ErrArg}, {false, -1, -1, api.ErrArg},
	}
	for _, r := range rows {
		p := police.New(other(true, 10), other(false, 11))
		p.Take(0, 100)
		p.Take(1, 100)
		p.Drop(r.drops)
		if err := p.May(r.task, r.now); err != r.want {
			t.Errorf("Drop(%v): May(%d, %d): %d, not %d", r.drops, r.task, r.now, err, r.want)
		}
		if err := p.Take(r.task, r.now); err != r.want {
			t.Errorf("Drop(%v): Take(%d, %d): %d, not %d", r.drops, r.task, r.now, err, r.want)
		}
	}
}

func TestP1602DropDoesNotForget(t *testing.T) {
	// Behind Drop(false) it is still too soon, of what was accepted ahead of Drop(true).
	for task, x := range mixed() {
		b := newBoth(t, mixed()...)
		b.take(task, 40)
		for range 3 {
			b.drop(true)
			b.drop(false)
			if err := b.p.May(task, 39+x.T); err != api.ErrSoon {
				t.Errorf("May(%d, %d): %d", task, 39+x.T, err)
			}
			if err := b.p.May(task, 40+x.T); err != api.OK {
				t.Errorf("May(%d, %d): %d", task, 40+x.T, err)
			}
			b.look()
		}
		// And one that was never accepted may arrive at once.
		b = newBoth(t, mixed()...)
		b.drop(true)
		b.take(task, 0)
		b.drop(false)
		b.take(task, 0)
		b.look()
		b.stop("Drop")
	}
}

package conf

import (
	"math"
	"reflect"
	"testing"

	"parclose/api"
)

// edges: numbers about which an answer may turn, or an int wrap round.
var edges = []int{
	math.MinInt, math.MinInt + 1, -1 << 62, -1 << 32, -1000, -2, -1,
	0, 1, 2, 3, 999, 1000, 1001, 1 << 32, 1<<32 + 1, 1 << 62, math.MaxInt - 1, math.MaxInt,
}

func TestP302TaskAtEachOfItsLimits(t *testing.T) {
	rows := []struct {
		what string
		task Task
		want bool
	}{
		{"the chapter's example", Task{true, 20, 15, 8, 3, 6}, true},
		{"the chapter's example with V 2", Task{true, 20, 15, 2, 3, 6}, false},
		{"the zero task", Task{}, false},
		{"the zero task, Hi", Task{Hi: true}, false},
		{"the least one", Task{false, 1, 1, 1, 1, 1}, true},
		{"the least one, Hi", Task{true, 1, 1, 1, 1, 1}, true},

		{"Hi, T below MaxPeriod", Task{true, 999, 15, 8, 3, 6}, true},
		{"Hi, T MaxPeriod", Task{true, 1000, 15, 8, 3, 6}, true},
		{"Hi, T above MaxPeriod", Task{true, 1001, 15, 8, 3, 6}, false},
		{"all MaxPeriod", Task{true, 1000, 1000, 1000, 1000, 1000}, true},
		{"all above MaxPeriod", Task{true, 1001, 1001, 1001, 1001, 1001}, false},
		{"low, T MaxPeriod", Task{false, 1000, 15, 15, 3, 3}, true},
		{"low, T above MaxPeriod", Task{false, 1001, 15, 15, 3, 3}, false},
		{"low, all MaxPeriod", Task{false, 1000, 1000, 1000, 1000, 1000}, true},
		{"low, all above MaxPeriod", Task{false, 1001, 1001, 1001, 1001, 1001}, false},

		{"Hi, Lo 2", Task{true, 20, 15, 8, 2, 6}, true},
		{"Hi, Lo 1", Task{true, 20, 15, 8, 1, 6}, true},
		{"Hi, Lo 0", Task{true, 20, 15, 8, 0, 6}, false},
		{"Hi, Lo below 0", Task{true, 20, 15, 8, -1, 6}, false},
		{"low, Lo 1", Task{false, 20, 15, 15, 1, 1}, true},
		{"low, Lo 0", Task{false, 20, 15, 15, 0, 0}, false},
		{"low, Lo below 0", Task{false, 20, 15, 15, -1, -1}, false},

		{"Hi, V above Lo", Task{true, 20, 15, 4, 3, 6}, true},
		{"Hi, V as Lo", Task{true, 20, 15, 3, 3, 6}, true},
		{"Hi, V below Lo", Task{true, 20, 15, 2, 3, 6}, false},

		{"Hi, V below D", Task{true, 20, 15, 14, 3, 6}, true},
		{"Hi, V as D", Task{true, 20, 15, 15, 3, 6}, true},
		{"Hi, V above D", Task{true, 20, 15, 16, 3, 6}, false},
		{"Hi, V above D and T", Task{true, 20, 15, 21, 3, 6}, false},

		{"Hi, D below T", Task{true, 20, 19, 8, 3, 6}, true},
		{"Hi, D as T", Task{true, 20, 20, 8, 3, 6}, true},
		{"Hi, D above T", Task{true, 20, 21, 8, 3, 6}, false},
		{"low, D below T", Task{false, 20, 19, 19, 3, 3}, true},
		{"low, D as T", Task{false, 20, 20, 20, 3, 3}, true},
		{"low, D above T", Task{false, 20, 21, 21, 3, 3}, false},

		{"Hi, Top above Lo", Task{true, 20, 15, 8, 3, 4}, true},
		{"Hi, Top as Lo", Task{true, 20, 15, 8, 3, 3}, true},
		{"Hi, Top below Lo", Task{true, 20, 15, 8, 3, 2}, false},

		{"Hi, Top as V", Task{true, 20, 15, 8, 3, 8}, true},
		{"Hi, Top above V", Task{true, 20, 15, 8, 3, 9}, true},
		{"Hi, Top below D", Task{true, 20, 15, 8, 3, 14}, true},
		{"Hi, Top as D", Task{true, 20, 15, 8, 3, 15}, true},
		{"Hi, Top above D", Task{true, 20, 15, 8, 3, 16}, false},
		{"Hi, Top as T", Task{true, 20, 15, 8, 3, 20}, false},

		{"low, V as D, Top as Lo", Task{false, 20, 15, 15, 3, 3}, true},
		{"low, V below D", Task{false, 20, 15, 14, 3, 3}, false},
		{"low, V as Lo", Task{false, 20, 15, 3, 3, 3}, false},
		{"low, V above D", Task{false, 20, 15, 16, 3, 3}, false},
		{"low, Top above Lo", Task{false, 20, 15, 15, 3, 4}, false},
		{"low, Top as D", Task{false, 20, 15, 15, 3, 15}, false},
		{"low, Top below Lo", Task{false, 20, 15, 15, 3, 2}, false},
		{"low, all of them", Task{false, 15, 15, 15, 15, 15}, true},
		{"the chapter's example, low", Task{false, 20, 15, 8, 3, 6}, false},
	}
	for _, row := range rows {
		if got := row.task.Right(); got != row.want {
			t.Errorf("%s: %+v: %v", row.what, row.task, got)
		}
	}
}

// rightTask: the chapter's sentence, word by word.
func rightTask(x Task) bool {
	words := []bool{
		1 <= x.T, x.T <= 1000,
		1 <= x.Lo, x.Lo <= x.V, x.V <= x.D, x.D <= x.T,
		x.Lo <= x.Top, x.Top <= x.D,
		x.Hi || x.V == x.D, x.Hi || x.Top == x.Lo,
	}
	for _, holds := range words {
		if !holds {
			return false
		}
	}
	return true
}

func TestP302TasksOfSmallNumbers(t *testing.T) {
	right := 0
	for i := range 7 * 7 * 7 * 7 * 7 {
		x := Task{T: i%7 - 1, D: i/7%7 - 1, V: i/49%7 - 1, Lo: i/343%7 - 1, Top: i/2401 - 1}
		for _, x.Hi = range []bool{false, true} {
			if got := x.Right(); got != rightTask(x) {
				t.Fatalf("%+v: %v", x, got)
			}
			if x.Right() {
				right++
			}
		}
	}
	if right == 0 {
		t.Error("none of them is right")
	}
}

func TestP302TasksOfNumbersAtTheEdges(t *testing.T) {
	for _, hi := range []bool{false, true} {
		for _, a := range edges {
			for _, b := range edges {
				for i := range 5 * 5 {
					n := [5]int{20, 15, 8, 3, 6}
					if !hi {
						n = [5]int{20, 15, 15, 3, 3}
					}
					n[i/5] = a
					n[i%5] = b
					x := Task{hi, n[0], n[1], n[2], n[3], n[4]}
					if got := x.Right(); got != rightTask(x) {
						t.Fatalf("%+v: %v", x, got)
					}
				}
			}
		}
	}
}

func TestP302TasksOfOneNumber(t *testing.T) {
	for _, n := range edges {
		for _, hi := range []bool{false, true} {
			x := Task{hi, n, n, n, n, n}
			if got := x.Right(); got != (n >= 1 && n <= 1000) {
				t.Errorf("%+v: %v", x, got)
			}
		}
	}
}

func TestP302ServerAtEachOfItsLimits(t *testing.T) {
	rows := []struct {
		c, t int
		want bool
	}{
		{0, 0, false},
		{1, 1, true},
		{2, 10, true},
		{1, 10, true},
		{0, 10, false},
		{-1, 10, false},
		{9, 10, true},
		{10, 10, true},
		{11, 10, false},
		{1, 999, true},
		{1, 1000, true},
		{1, 1001, false},
		{999, 1000, true},
		{1000, 1000, true},
		{1001, 1000, false},
		{1001, 1001, false},
		{1, 0, false},
		{-1, 0, false},
		{-1, -1, false},
		{-2, -1, false},
		{math.MinInt, 10, false},
		{math.MaxInt, 10, false},
		{1, math.MinInt, false},
		{1, math.MaxInt, false},
		{math.MinInt, math.MinInt, false},
		{math.MaxInt, math.MaxInt, false},
		{math.MinInt, math.MaxInt, false},
		{1 << 32, 1 << 32, false},
		{1<<32 + 1, 1<<32 + 10, false},
	}
	for _, row := range rows {
		for _, refill := range []bool{false, true} {
			s := Server{refill, row.c, row.t}
			if got := s.Right(); got != row.want {
				t.Errorf("%+v: %v", s, got)
			}
		}
	}
	for _, a := range edges {
		for _, b := range edges {
			want := a >= 1 && a <= b && b <= 1000
			if got := (Server{C: a, T: b}).Right(); got != want {
				t.Errorf("C %d, T %d: %v", a, b, got)
			}
		}
	}
}

var (
	goodTask   = Task{true, 20, 15, 8, 3, 6}
	badTask    = Task{true, 20, 15, 2, 3, 6}
	goodServer = Server{true, 2, 10}
	badServer  = Server{false, 11, 10}
)

// times: so many of one thing.
func times[T any](n int, x T) []T {
	var l []T
	for range n {
		l = append(l, x)
	}
	return l
}

func tells(t *testing.T, what string, a Part, want api.Errno) {
	t.Helper()
	for range 2 {
		if err := a.Rights(); err != want {
			t.Errorf("%s: error %d, not %d", what, err, want)
		}
	}
}

func TestP303TheNumbersOfItsErrors(t *testing.T) {
	if api.ErrTask != 22 || api.ErrServer != 23 || api.ErrHealth != 26 || api.OK != 0 || api.MaxTasks != 6 || api.MaxServers != 3 || Note != 0 || Stop != 1 || Again != 2 {
		t.Error("numbers that the document gives are other ones")
	}
	if Missed != 0 || Overrun != 1 || Odd != 2 {
		t.Error("faults are of other numbers than the document says")
	}
}

func TestP303TasksSoMany(t *testing.T) {
	tells(t, "none", Part{}, api.OK)
	tells(t, "empty lists", Part{Tasks: []Task{}, Servers: []Server{}, Donees: []int{}}, api.OK)
	for n := range 7 {
		tells(t, "tasks", Part{Tasks: times(n, goodTask)}, api.OK)
	}
	for _, n := range []int{7, 8, 12, 256, 1000, 1 << 16} {
		tells(t, "more tasks", Part{Tasks: times(n, goodTask)}, api.ErrTask)
	}
	tells(t, "just as many in room for more", Part{Tasks: times(9, badTask)[:0]}, api.OK)
}

func TestP303ATaskThatIsNotRight(t *testing.T) {
	for n := range 7 {
		for i := range n {
			a := Part{Tasks: times(n, goodTask)}
			for _, bad := range []Task{badTask, {}, {T: -1}, {true, 1001, 15, 8, 3, 6}} {
				a.Tasks[i] = bad
				tells(t, "one that is not right", a, api.ErrTask)
			}
			a.Tasks[i] = Task{false, 20, 15, 15, 3, 3}
			tells(t, "another one that is", a, api.OK)
		}
	}
}

func TestP303ServersSoMany(t *testing.T) {
	for n := range 4 {
		tells(t, "servers", Part{Servers: times(n, goodServer)}, api.OK)
	}
	for _, n := range []int{4, 5, 6, 256, 1000, 1 << 16} {
		tells(t, "more servers", Part{Servers: times(n, goodServer)}, api.ErrServer)
	}
}

func TestP303AServerThatIsNotRight(t *testing.T) {
	for n := range 4 {
		for i := range n {
			a := Part{Servers: times(n, goodServer)}
			for _, bad := range []Server{badServer, {}, {false, -1, 10}, {true, 1, 1001}} {
				a.Servers[i] = bad
				tells(t, "one that is not right", a, api.ErrServer)
			}
			a.Servers[i] = Server{false, 10, 10}
			tells(t, "another one that is", a, api.OK)
		}
	}
}

func TestP303Acts(t *testing.T) {
	for i := range 3 {
		for act := range 256 {
			var a Part
			a.Acts[i] = uint8(act)
			want := api.OK
			if act > 2 {
				want = api.ErrHealth
			}
			tells(t, "an act", a, want)
		}
	}
	tells(t, "each another one", Part{Acts: [3]uint8{Again, Stop, Note}}, api.OK)
	tells(t, "all Again", Part{Acts: [3]uint8{Again, Again, Again}}, api.OK)
	tells(t, "all just above", Part{Acts: [3]uint8{3, 3, 3}}, api.ErrHealth)
}

func TestP303SeveralAtOnce(t *testing.T) {
	tasks := [][]Task{nil, times(6, goodTask), times(7, goodTask), {goodTask, badTask}, times(7, badTask)}
	servers := [][]Server{nil, times(3, goodServer), times(4, goodServer), {goodServer, badServer}, times(4, badServer)}
	acts := [][3]uint8{{}, {2, 2, 2}, {0, 0, 3}, {255, 0, 0}}
	for i, l := range tasks {
		for j, m := range servers {
			for k, act := range acts {
				want := api.OK
				switch {
				case i > 1:
					want = api.ErrTask
				case j > 1:
					want = api.ErrServer
				case k > 1:
					want = api.ErrHealth
				}
				tells(t, "several", Part{Tasks: l, Servers: m, Acts: act}, want)
			}
		}
	}
}

func TestP303DoneesAreNotAsked(t *testing.T) {
	tells(t, "donees of all kinds", Part{Donees: []int{-1, 7, 7, math.MaxInt}}, api.OK)
	tells(t, "many donees", Part{Donees: times(1000, 0)}, api.OK)
}

func TestP301RightsLeavesAllAlone(t *testing.T) {
	made := func() Part {
		return Part{
			Tasks:   append(times(6, goodTask), badTask),
			Servers: append(times(3, goodServer), badServer),
			Donees:  append(times(3, 1), 9),
			Acts:    [3]uint8{2, 1, 0},
		}
	}
	a := made()
	tells(t, "with room behind", Part{a.Tasks[:6], a.Servers[:3], a.Donees[:3], a.Acts}, api.OK)
	tells(t, "all of it", a, api.ErrTask)
	if !reflect.DeepEqual(a, made()) {
		t.Error("what was handed in is another one now")
	}
}

package kernel_test

import (
	"strconv"

	"parclose/journal"
	"parclose/kernel"
	"parclose/tasks"
)

// Short names for items, ops and entries.
func arrive(p, task, work int, ops ...tasks.Op) kernel.Item {
	return kernel.Item{Kind: 0, Part: p, A: task, B: work, Ops: ops}
}
func ask(p, server, work int) kernel.Item { return kernel.Item{Kind: 1, Part: p, A: server, B: work} }
func halt(p int) kernel.Item              { return kernel.Item{Kind: 2, Part: p} }
func start(p int) kernel.Item             { return kernel.Item{Kind: 3, Part: p} }
func mark(a int) kernel.Item              { return kernel.Item{Kind: 4, A: a} }

func op(kind, a, b int) tasks.Op { return tasks.Op{Kind: kind, A: a, B: b} }

func items(l ...kernel.Item) []kernel.Item { return l }

func seen(tick, kind, a, b int) journal.Entry {
	return journal.Entry{Tick: tick, Kind: kind, A: a, B: b}
}

// firstOther: where two logs part.
func firstOther(a, b []journal.Entry) string {
	for i := range min(len(a), len(b)) {
		if a[i] != b[i] {
			return "at " + strconv.Itoa(i) + ": " + told(a[i]) + ", not " + told(b[i])
		}
	}
	return "one begins with the other one"
}

func told(e journal.Entry) string {
	return strconv.Itoa(e.Tick) + " " + journal.Word(e.Kind) + " " + strconv.Itoa(e.A) + " " + strconv.Itoa(e.B)
}

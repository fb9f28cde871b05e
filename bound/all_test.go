package bound

import (
	"math"
	"math/rand/v2"
	"testing"

	"parclose/conf"
)

func checkAll(t *testing.T, c conf.Config, part, most int) {
	t.Helper()
	if p, n := All(c); p != part || n != most {
		t.Errorf("%+v: of all it is %d, %d; not %d, %d", c, p, n, part, most)
	}
}

func system(frame int, l ...conf.Part) conf.Config { return conf.Config{Frame: frame, Parts: l} }

// none: without a bound, whatever the frame.
func none() conf.Part { return of(997, 991, 983) }

func TestP1002AllOfNoPartitions(t *testing.T) {
	for _, n := range edges {
		checkAll(t, system(n), -1, 0)
		checkAll(t, conf.Config{Frame: n, Parts: []conf.Part{}, Windows: []conf.Window{{Len: 5, Part: 0}}}, -1, 0)
	}
}

func TestP1002AllOfOne(t *testing.T) {
	checkAll(t, system(20, example()), -1, 85)
	checkAll(t, system(20, conf.Part{}), -1, 21)
	checkAll(t, system(1, conf.Part{}), -1, 2)
	checkAll(t, system(20, none()), 0, 0)
	checkAll(t, system(0, example()), 0, 0)
	checkAll(t, system(-20, example()), 0, 0)
	checkAll(t, system(math.MaxInt, example()), 0, 0)
	checkAll(t, system(65535, conf.Part{}), -1, 65536)
	checkAll(t, system(65536, conf.Part{}), 0, 0)
}

func TestP1002AllTellsTheFirstWithoutABound(t *testing.T) {
	checkAll(t, system(20, none(), example(), conf.Part{}), 0, 0)
	checkAll(t, system(20, example(), none(), conf.Part{}), 1, 0)
	checkAll(t, system(20, example(), conf.Part{}, none()), 2, 0)
	checkAll(t, system(20, example(), none(), none()), 1, 0)
	checkAll(t, system(20, none(), none()), 0, 0)
	checkAll(t, system(0, example(), none()), 0, 0)
	checkAll(t, system(20, conf.Part{}, conf.Part{}, conf.Part{}, conf.Part{}, conf.Part{}, none()), 5, 0)
	// Too large by far alone.
	tight := conf.Part{Tasks: []conf.Task{highTask(625, 1, 1), highTask(650, 537, 1)}}
	checkAll(t, system(200, example(), tight, example()), 1, 0)
	tight.Tasks[1].D, tight.Tasks[1].Top = 536, 536
	checkAll(t, system(200, example(), tight, example()), -1, 65536)
}

func TestP1002AllTellsTheGreatest(t *testing.T) {
	checkAll(t, system(20, of(50), example(), conf.Part{}), -1, 150)
	checkAll(t, system(20, conf.Part{}, example(), of(50)), -1, 150)
	checkAll(t, system(20, example(), of(50), conf.Part{}), -1, 150)
	checkAll(t, system(20, of(50), of(50)), -1, 150)
	// The greatest bound, not the greatest round with the greatest far.
	checkAll(t, system(20, conf.Part{Tasks: []conf.Task{task(50, 1)}}, with(conf.Part{}, 20)), -1, 101)
	checkAll(t, system(20, conf.Part{Tasks: []conf.Task{task(50, 1)}}, with(conf.Part{}, 80)), -1, 160)
}

func TestP1002AllOfMoreThanThereMayBe(t *testing.T) {
	l := make([]conf.Part, 1000)
	checkAll(t, system(20, l...), -1, 21)
	l[998] = of(50)
	checkAll(t, system(20, l...), -1, 150)
	l[999] = none()
	checkAll(t, system(20, l...), 999, 0)
	l[7] = none()
	checkAll(t, system(20, l...), 7, 0)
}

func TestP1002AllIsEachByItself(t *testing.T) {
	r := rand.New(rand.NewPCG(3, 10))
	l := parts()
	for range 300 {
		c := conf.Config{Frame: []int{1, 2, 10, 20, 60, 100, 256, 0, 1 + r.IntN(256)}[r.IntN(9)]}
		for range r.IntN(8) {
			c.Parts = append(c.Parts, l[r.IntN(len(l))])
		}
		part, most := allOf(c)
		checkAll(t, c, part, most)
	}
	for _, n := range edges {
		c := system(n, of(1), with(of(2), 4), example())
		part, most := allOf(c)
		checkAll(t, c, part, most)
	}
}

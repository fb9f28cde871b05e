package num

// Sum: a value, as long as all fits. The zero Sum is 0, and whole.
type Sum struct {
	value int
	// broken, and not whole, as the zero Sum has to be whole.
	broken bool
}

// Add: each number, one by one, is added.
func (s *Sum) Add(l ...int) {
	if s == nil {
		return
	}
	for _, n := range l {
		s.become(Add(s.value, n))
	}
}

// Mul: it is n times what it was.
func (s *Sum) Mul(n int) {
	if s == nil {
		return
	}
	s.become(Mul(s.value, n))
}

// Value: what it is, true; 0, false, of one that isn't whole.
func (s *Sum) Value() (int, bool) {
	if s == nil || s.broken {
		return 0, false
	}
	return s.value, true
}

// become: nothing mends what is broken, though the value is worked on behind that; nobody is told it.
func (s *Sum) become(value int, ok bool) {
	s.value = value
	s.broken = s.broken || !ok
}

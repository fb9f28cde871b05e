package journal

// words: of each kind.
var words = [...]string{
	Accept:  "accept",
	Refuse:  "refuse",
	Ask:     "ask",
	Ran:     "ran",
	Ended:   "ended",
	Over:    "over",
	Missed:  "missed",
	Rose:    "rose",
	Dropped: "dropped",
	Fell:    "fell",
	Served:  "served",
	Op:      "op",
	Fault:   "fault",
	Order:   "order",
	Mark:    "mark",
}

// Same: are these the same entries, in the same order?
func Same(a, b []Entry) bool {
	if len(a) != len(b) {
		return false
	}
	for i, e := range a {
		if e != b[i] {
			return false
		}
	}
	return true
}

// Word: a kind's word; "" of one there is not.
func Word(kind int) string {
	if kind < 0 || kind >= len(words) {
		return ""
	}
	return words[kind]
}

package regex

import "alerts/api"

// The kinds of expressions.
const (
	oneByte  = 0 // one of a set: a byte, . or a class
	sequence = 1 // parts one behind the other; none: nothing
	choice   = 2 // one of the parts
	repeated = 3
)

// noEnd stands for the most of a repetition that has none.
const noEnd = -1

// expression is a text that was read, as a tree. What is repeated has its own
// field, so that no index is needed for it.
type expression struct {
	kind        int
	bytes       byteSet
	parts       []*expression
	what        *expression
	least, most int
}

// places counts the places (P8) of an expression; once a part has more than
// there may be, so has the whole, though that part be repeated no times.
func (e *expression) places() int {
	switch e.kind {
	case oneByte:
		return 1
	case repeated:
		return e.repeatedPlaces()
	}
	n := 0
	for _, part := range e.parts {
		n += part.places()
	}
	return n
}

func (e *expression) repeatedPlaces() int {
	n := e.what.places()
	if n > api.MaxPlaces {
		return n
	}
	if e.most == noEnd {
		return n * (e.least + 1)
	}
	return n * e.most
}

package program

import "alerts/api"

// Run answers what the program sends for these labels.
func (p *Program) Run(l []api.Label) []api.Hit {
	hits := []api.Hit{}
	at := 0
	for at < len(p.Instructions) {
		in := p.Instructions[at]
		next := in.First
		switch in.Kind {
		case Send:
			if in.Number >= 0 && in.Number < len(p.Routes) {
				hit := fresh(p.Routes[in.Number])
				hits = append(hits, hit)
			}
		case Check:
			if !p.holds(in.Number, l) {
				next = in.Second
			}
		default:
			return hits
		}
		if next <= at {
			return hits
		}
		at = next
	}
	return hits
}

// fresh makes a hit whose list of labels is its own and has no spare room: the
// caller may write into it, and the program's must not be changed by that.
func fresh(hit api.Hit) api.Hit {
	by := make([]string, len(hit.By))
	copy(by, hit.By)
	hit.By = by
	return hit
}

// holds answers false for a test that is not there.
func (p *Program) holds(number int, l []api.Label) bool {
	if number < 0 || number >= len(p.Tests) {
		return false
	}
	test := p.Tests[number]
	if test.Name < 0 || test.Name >= len(p.Names) || test.Number < 0 {
		return false
	}
	value := valueOf(l, p.Names[test.Name])
	switch test.Kind {
	case Equals:
		return test.Number < len(p.Constants) && p.Constants[test.Number] == value
	case Taken:
		return test.Number < len(p.Automata) && p.Automata[test.Number].Takes(value)
	}
	return false
}

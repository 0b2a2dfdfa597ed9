// Package regex makes automata of regular expressions over bytes.
package regex

import "alerts/api"

// Automaton begins in state 0. Next has the next states, of each state those
// of all classes; the classes are numbered as ClassOf tells.
type Automaton struct {
	Classes int
	ClassOf [256]byte
	Accepts []bool
	Next    []int
}

// Compile makes the automaton of a regular expression: its states are the
// forms that are left of it.
func Compile(text string) (Automaton, api.Errno) {
	p := parser{text: text}
	e := p.parse()
	if e == nil {
		return Automaton{}, api.ErrRegex
	}
	if e.places() > api.MaxPlaces {
		return Automaton{}, api.ErrLarge
	}
	a, ok := automatonOf(e, p.sets)
	if !ok {
		return Automaton{}, api.ErrStates
	}
	return a, api.OK
}

// Takes tells whether the expression takes the whole value.
func (a *Automaton) Takes(value string) bool {
	state := 0
	for i := 0; i < len(value); i++ {
		step := state*a.Classes + int(a.ClassOf[value[i]])
		if step < 0 || step >= len(a.Next) {
			return false
		}
		state = a.Next[step]
	}
	return state >= 0 && state < len(a.Accepts) && a.Accepts[state]
}

// automatonOf answers false if there are too many states.
func automatonOf(e *expression, sets []byteSet) (Automaton, bool) {
	a := Automaton{}
	firsts := a.sortBytes(sets)
	f := newForms()
	whole := f.normal(e)
	states := []int{whole}
	for i := 0; i < len(states); i++ {
		for _, c := range firsts {
			left := f.leftBehind(states[i], c)
			next := find(states, left)
			if next == api.MaxStates {
				return Automaton{}, false
			}
			if next == len(states) {
				states = append(states, left)
			}
			a.Next = append(a.Next, next)
		}
	}
	for _, state := range states {
		a.Accepts = append(a.Accepts, f.all[state].takesEmpty)
	}
	return a, true
}

// sortBytes lays bytes that no set tells apart into one class, for nothing
// else is left of a form behind the one than behind the other; it answers the
// first byte of each class.
func (a *Automaton) sortBytes(sets []byteSet) []byte {
	firsts := []byte{}
	for c := 0; c < 256; c++ {
		class := classOf(sets, firsts, byte(c))
		if class == len(firsts) {
			firsts = append(firsts, byte(c))
		}
		a.ClassOf[c] = byte(class)
	}
	a.Classes = len(firsts)
	return firsts
}

// classOf answers how many classes there are if the byte is of none of them.
func classOf(sets []byteSet, firsts []byte, c byte) int {
	for class, first := range firsts {
		if !toldApart(sets, first, c) {
			return class
		}
	}
	return len(firsts)
}

func toldApart(sets []byteSet, a byte, b byte) bool {
	for _, set := range sets {
		if set.has(a) != set.has(b) {
			return true
		}
	}
	return false
}

// find answers the length of the list if the number is not in it.
func find(list []int, n int) int {
	for i, m := range list {
		if m == n {
			return i
		}
	}
	return len(list)
}

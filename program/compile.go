package program

import (
	"alerts/api"
	"alerts/config"
	"alerts/regex"
)

// condition is a matcher: a test, and whether it is to hold or not to hold.
type condition struct {
	test  int
	holds bool
}

// compiler has the expression of each automaton, the conditions of each route,
// and the instructions that are laid so far (see layRoute).
type compiler struct {
	program     Program
	routes      []config.Route
	expressions []string
	conditions  [][]condition
	laid        []Instruction
}

// Compile makes the program of a configuration, or tells the fault of the
// first expression that has one, with the line of its route.
func Compile(c config.Config) (Program, api.Errno, int) {
	k := compiler{routes: c.Routes}
	for i, r := range c.Routes {
		e := k.readMatchers(r.If)
		if e != api.OK {
			return Program{}, e, config.LineOf(i)
		}
	}
	k.program.Routes = config.Hits(c.Routes)
	k.program.Instructions = k.instructions()
	return k.program, api.OK, 0
}

// readMatchers adds the conditions of the next route.
func (k *compiler) readMatchers(matchers []config.Matcher) api.Errno {
	conditions := []condition{}
	for _, m := range matchers {
		test, e := k.testOf(m)
		if e != api.OK {
			return e
		}
		number := k.numberOfTest(test)
		holds := m.Kind == api.Is || m.Kind == api.Like
		conditions = append(conditions, condition{test: number, holds: holds})
	}
	k.conditions = append(k.conditions, conditions)
	return api.OK
}

func (k *compiler) testOf(m config.Matcher) (Test, api.Errno) {
	name := find(k.program.Names, m.Name)
	if name == len(k.program.Names) {
		k.program.Names = append(k.program.Names, m.Name)
	}
	if m.Kind == api.Like || m.Kind == api.Unlike {
		number, e := k.numberOfAutomaton(m.Value)
		return Test{Name: name, Kind: Taken, Number: number}, e
	}
	number := find(k.program.Constants, m.Value)
	if number == len(k.program.Constants) {
		k.program.Constants = append(k.program.Constants, m.Value)
	}
	return Test{Name: name, Kind: Equals, Number: number}, api.OK
}

// numberOfAutomaton makes one automaton for an expression, however often that
// stands in the configuration.
func (k *compiler) numberOfAutomaton(expression string) (int, api.Errno) {
	number := find(k.expressions, expression)
	if number < len(k.expressions) {
		return number, api.OK
	}
	automaton, e := regex.Compile(expression)
	if e != api.OK {
		return 0, e
	}
	k.expressions = append(k.expressions, expression)
	k.program.Automata = append(k.program.Automata, automaton)
	return number, api.OK
}

func (k *compiler) numberOfTest(test Test) int {
	for i, other := range k.program.Tests {
		if other == test {
			return i
		}
	}
	k.program.Tests = append(k.program.Tests, test)
	return len(k.program.Tests) - 1
}

// find answers the length of the list if the text is not in it.
func find(list []string, text string) int {
	for i, other := range list {
		if other == text {
			return i
		}
	}
	return len(list)
}

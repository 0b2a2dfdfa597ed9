// Package program has what configurations are compiled into, and runs it.
package program

import (
	"alerts/api"
	"alerts/regex"
)

// The kinds of instructions.
const (
	End   = 0
	Send  = 1 // the route Number, then go on at First
	Check = 2 // go on at First if the test Number holds, else at Second
)

// The kinds of tests.
const (
	Equals = 0 // the label's value is the constant Number
	Taken  = 1 // the automaton Number takes the label's value
)

// Test asks for the value of the label that has the name with this number.
type Test struct {
	Name, Kind, Number int
}

// Instruction goes on at instructions with greater numbers alone, so that
// every run ends.
type Instruction struct {
	Kind, Number, First, Second int
}

// Program begins at instruction 0. Routes has what is sent for each route.
type Program struct {
	Names        []string
	Constants    []string
	Automata     []regex.Automaton
	Tests        []Test
	Routes       []api.Hit
	Instructions []Instruction
}

// Package config reads configurations, tells their faults and writes them in
// their one form.
package config

import "alerts/api"

// Parents stands for the receiver of a route that takes its parent's.
const Parents = "-"

// NotTold stands for a time that a route inherits.
const NotTold = -1

// Matcher is one condition of a route; Kind is api.Is, IsNot, Like or Unlike.
type Matcher struct {
	Name  string
	Kind  int
	Value string
}

// Route is one route with what it tells itself. By is rising and has each
// name once; it is told to be empty if TellsBy and there is none.
type Route struct {
	Depth               int
	Receiver            string
	TellsBy             bool
	By                  []string
	Wait, Every, Repeat int
	If                  []Matcher
	Continue            bool
}

// Config is a configuration; the routes stand in the order of their lines.
type Config struct {
	Receivers []string
	Routes    []Route
}

// LineOf tells the line of the route with this number: the receivers have the
// first line, and lines are counted from 1.
func LineOf(route int) int {
	return route + 2
}

// Read makes a configuration of a text, or tells its first fault and the line.
func Read(s string) (Config, api.Errno, int) {
	if len(s) > api.MaxText {
		return Config{}, api.ErrLong, 0
	}
	c, line := readLines(s)
	if line > 0 {
		return Config{}, api.ErrSyntax, line
	}
	line = treeFault(c.Routes)
	if line > 0 {
		return Config{}, api.ErrTree, line
	}
	line = nameFault(c)
	if line > 0 {
		return Config{}, api.ErrName, line
	}
	return c, api.OK, 0
}

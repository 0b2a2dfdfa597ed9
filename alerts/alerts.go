// Package alerts: where alerts go: see DOC.md.
package alerts

import (
	"alerts/api"
	"alerts/config"
	"alerts/regex"
)

// Program is one that was made of a configuration, or loaded.
type Program struct{}

// Compile makes the program of a configuration (P9).
func Compile(s string) (*Program, api.Errno, int) {
	c, e, line := config.Read(s)
	if e != api.OK {
		return nil, e, line
	}
	e, line = expressionFault(c.Routes)
	if e != api.OK {
		return nil, e, line
	}
	return &Program{}, api.OK, 0
}

// expressionFault answers the fault of the first matcher that has one, with
// the line of its route.
func expressionFault(routes []config.Route) (api.Errno, int) {
	for i, r := range routes {
		for _, m := range r.If {
			if m.Kind != api.Like && m.Kind != api.Unlike {
				continue
			}
			_, e := regex.Compile(m.Value)
			if e != api.OK {
				return e, config.LineOf(i)
			}
		}
	}
	return api.OK, 0
}

// Print writes a configuration in its one form (P6).
func Print(s string) (string, api.Errno, int) {
	c, e, line := config.Read(s)
	if e != api.OK {
		return "", e, line
	}
	return config.Print(c), api.OK, 0
}

// Route tells where an alert goes (P10, P11).
func (p *Program) Route(l []api.Label) ([]api.Hit, api.Errno) { return nil, api.OK }

// Save writes a program as bytes (P13).
func (p *Program) Save() string { return "" }

// Load reads a program from bytes (P14).
func Load(s string) (*Program, api.Errno) { return nil, api.OK }

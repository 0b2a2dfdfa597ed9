// Package alerts: where alerts go: see DOC.md.
package alerts

import (
	"alerts/api"
	"alerts/config"
	"alerts/program"
)

// Program is one that was made of a configuration, or loaded.
type Program struct {
	code program.Program
}

// Compile makes the program of a configuration (P9).
func Compile(s string) (*Program, api.Errno, int) {
	c, e, line := config.Read(s)
	if e != api.OK {
		return nil, e, line
	}
	code, e, line := program.Compile(c)
	if e != api.OK {
		return nil, e, line
	}
	return &Program{code: code}, api.OK, 0
}

// Print writes a configuration in its one form (P6).
func Print(s string) (string, api.Errno, int) {
	c, e, line := config.Read(s)
	if e != api.OK {
		return "", e, line
	}
	return config.Print(c), api.OK, 0
}

// Route tells where an alert goes (P10, P11).
func (p *Program) Route(l []api.Label) ([]api.Hit, api.Errno) {
	if !program.AreLabels(l) {
		return nil, api.ErrLabels
	}
	// With a fault Compile and Load answer no program: it sends nowhere.
	if p == nil {
		return nil, api.OK
	}
	return p.code.Run(l), api.OK
}

// Save writes a program as bytes (P13).
func (p *Program) Save() string {
	// What neither Compile nor Load made has no bytes.
	if p == nil || len(p.code.Instructions) == 0 {
		return ""
	}
	return p.code.Save()
}

// Load reads a program from bytes (P14).
func Load(s string) (*Program, api.Errno) {
	code, ok := program.Load(s)
	if !ok {
		return nil, api.ErrBytes
	}
	return &Program{code: code}, api.OK
}

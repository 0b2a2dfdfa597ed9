package program

import (
	"alerts/api"
	"alerts/regex"
)

// mark is what the bytes of every program begin with.
const mark = "OB1"

// saver has the bytes that are written so far.
type saver struct {
	bytes []byte
}

// Save writes a program as bytes. These tell each thing in one way only: so a
// program that was loaded is saved as the bytes it was loaded from.
func (p *Program) Save() string {
	s := saver{bytes: []byte(mark)}
	s.addTexts(p.Names)
	s.addTexts(p.Constants)
	s.addNumber(1, len(p.Automata))
	for i := range p.Automata {
		s.addAutomaton(&p.Automata[i])
	}
	s.addNumber(1, len(p.Tests))
	for _, test := range p.Tests {
		s.addNumber(1, test.Name)
		s.addNumber(1, test.Kind)
		s.addNumber(1, test.Number)
	}
	s.addNumber(1, len(p.Routes))
	for _, hit := range p.Routes {
		s.addHit(hit)
	}
	s.addNumber(2, len(p.Instructions))
	for _, in := range p.Instructions {
		s.addNumber(1, in.Kind)
		s.addNumber(1, in.Number)
		s.addNumber(2, in.First)
		s.addNumber(2, in.Second)
	}
	return string(s.bytes)
}

// addNumber writes a number as so many bytes, the high one first.
func (s *saver) addNumber(size int, n int) {
	if size > 1 {
		s.addNumber(size-1, n/256)
	}
	s.bytes = append(s.bytes, byte(n%256))
}

func (s *saver) addText(text string) {
	s.addNumber(1, len(text))
	s.bytes = append(s.bytes, text...)
}

func (s *saver) addTexts(texts []string) {
	s.addNumber(1, len(texts))
	for _, text := range texts {
		s.addText(text)
	}
}

func (s *saver) addAutomaton(a *regex.Automaton) {
	s.addNumber(1, len(a.Accepts))
	s.addNumber(2, a.Classes)
	for _, class := range a.ClassOf {
		s.bytes = append(s.bytes, class)
	}
	for _, accepts := range a.Accepts {
		if accepts {
			s.addNumber(1, 1)
		} else {
			s.addNumber(1, 0)
		}
	}
	for _, next := range a.Next {
		s.addNumber(1, next)
	}
}

func (s *saver) addHit(hit api.Hit) {
	s.addText(hit.Receiver)
	s.addTexts(hit.By)
	s.addNumber(3, hit.Wait)
	s.addNumber(3, hit.Every)
	s.addNumber(3, hit.Repeat)
}

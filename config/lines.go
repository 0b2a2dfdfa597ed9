package config

import "alerts/api"

// readLines answers the line of the first fault, 0 if there is none. A last
// line that is not ended is a fault whether it could be a line or not.
func readLines(s string) (Config, int) {
	c := Config{}
	line := 1
	start := 0
	for i := 0; i < len(s); i++ {
		if s[i] != '\n' {
			continue
		}
		if !c.addLine(line, s[start:i]) {
			return Config{}, line
		}
		start = i + 1
		line++
	}
	if start < len(s) || line == 1 {
		return Config{}, line
	}
	return c, 0
}

func (c *Config) addLine(line int, text string) bool {
	if line == 1 {
		names, ok := readReceivers(text)
		c.Receivers = names
		return ok
	}
	r, ok := readRoute(text)
	c.Routes = append(c.Routes, r)
	return ok
}

func readReceivers(text string) ([]string, bool) {
	s := scanner{text: text}
	if !s.take("receivers") {
		return nil, false
	}
	names := []string{}
	for s.take(" ") {
		name, ok := s.takeName()
		if !ok || len(names) >= api.MaxRecv {
			return nil, false
		}
		names = append(names, name)
	}
	return names, len(names) > 0 && s.atEnd()
}

// readRoute takes each part together with the blank ahead of it: so a blank
// too many, or one behind the last word, is of no part and left over.
func readRoute(text string) (Route, bool) {
	s := scanner{text: text}
	r := Route{}
	for s.take(" ") {
		r.Depth++
	}
	ok := s.take("route ")
	ok = ok && s.takeReceiver(&r)
	ok = ok && s.takeBy(&r)
	ok = ok && s.takeTimes(&r)
	ok = ok && s.takeMatchers(&r)
	if !ok {
		return Route{}, false
	}
	r.Continue = s.take(" continue")
	return r, s.atEnd()
}

func (s *scanner) takeReceiver(r *Route) bool {
	if s.take(Parents) {
		r.Receiver = Parents
		return true
	}
	name, ok := s.takeName()
	r.Receiver = name
	return ok
}

func (s *scanner) takeBy(r *Route) bool {
	if !s.take(" by ") {
		return true
	}
	r.TellsBy = true
	if s.take("-") {
		return true
	}
	names, ok := s.takeLabels()
	r.By = risingOnce(names)
	return ok
}

func (s *scanner) takeLabels() ([]string, bool) {
	names := []string{}
	for len(names) == 0 || s.take(",") {
		name, ok := s.takeName()
		if !ok || len(names) >= api.MaxBy {
			return nil, false
		}
		names = append(names, name)
	}
	return names, true
}

func (s *scanner) takeTimes(r *Route) bool {
	wait, waitOK := s.takeTime(" wait ")
	every, everyOK := s.takeTime(" every ")
	repeat, repeatOK := s.takeTime(" repeat ")
	r.Wait = wait
	r.Every = every
	r.Repeat = repeat
	return waitOK && everyOK && repeatOK
}

func (s *scanner) takeTime(word string) (int, bool) {
	if !s.take(word) {
		return NotTold, true
	}
	return s.takeNumber()
}

func (s *scanner) takeMatchers(r *Route) bool {
	for s.take(" if ") {
		m, ok := s.takeMatcher()
		if !ok || len(r.If) >= api.MaxIf {
			return false
		}
		r.If = append(r.If, m)
	}
	return true
}

func (s *scanner) takeMatcher() (Matcher, bool) {
	name, nameOK := s.takeName()
	kind, kindOK := s.takeKind()
	value, valueOK := s.takeValue()
	m := Matcher{Name: name, Kind: kind, Value: value}
	return m, nameOK && kindOK && valueOK
}

// takeKind tries = last, because =~ begins with it.
func (s *scanner) takeKind() (int, bool) {
	if s.take("=~") {
		return api.Like, true
	}
	if s.take("!~") {
		return api.Unlike, true
	}
	if s.take("!=") {
		return api.IsNot, true
	}
	return api.Is, s.take("=")
}

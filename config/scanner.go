package config

import "alerts/api"

// scanner walks over one line; at is never beyond the text's end.
type scanner struct {
	text string
	at   int
}

func (s *scanner) atEnd() bool {
	return s.at >= len(s.text)
}

// peek answers the byte ahead. At the end it answers 0, which is safe because
// no place in a line may hold that byte.
func (s *scanner) peek() byte {
	if s.at >= len(s.text) {
		return 0
	}
	return s.text[s.at]
}

// take steps over the word if it stands ahead.
func (s *scanner) take(word string) bool {
	end := s.at + len(word)
	if end > len(s.text) || s.text[s.at:end] != word {
		return false
	}
	s.at = end
	return true
}

// takeName takes all that could be of a name, so that a name which is too long
// is seen here and not cut.
func (s *scanner) takeName() (string, bool) {
	start := s.at
	for isNameByte(s.peek()) {
		s.at++
	}
	name := s.text[start:s.at]
	return name, IsName(name)
}

// takeNumber stops behind a nought that stands ahead: whatever digit follows
// it is then out of place.
func (s *scanner) takeNumber() (int, bool) {
	if s.take("0") {
		return 0, true
	}
	if !isDigit(s.peek()) {
		return 0, false
	}
	n := 0
	for isDigit(s.peek()) {
		digit := s.peek()
		n = n*10 + int(digit-'0')
		if n > api.MaxTime {
			return 0, false
		}
		s.at++
	}
	return n, true
}

// takeValue takes a value with its quotes and answers what it stands for.
func (s *scanner) takeValue() (string, bool) {
	if !s.take("\"") {
		return "", false
	}
	value := []byte{}
	for !s.take("\"") {
		c, ok := s.takeValueByte()
		if !ok || len(value) >= api.MaxValue {
			return "", false
		}
		value = append(value, c)
	}
	return string(value), true
}

// takeValueByte takes one byte of a value, in whichever way it is written; the
// quote that ends the value is not for it to meet.
func (s *scanner) takeValueByte() (byte, bool) {
	if s.take("\\\"") {
		return '"', true
	}
	if s.take("\\\\") {
		return '\\', true
	}
	if s.take("\\x") {
		return s.takeHexByte()
	}
	c := s.peek()
	if !isPlain(c) || c == '\\' {
		return 0, false
	}
	s.at++
	return c, true
}

func (s *scanner) takeHexByte() (byte, bool) {
	high, highOK := s.takeHexDigit()
	low, lowOK := s.takeHexDigit()
	return high*16 + low, highOK && lowOK
}

func (s *scanner) takeHexDigit() (byte, bool) {
	c := s.peek()
	if isDigit(c) {
		s.at++
		return c - '0', true
	}
	if c >= 'a' && c <= 'f' {
		s.at++
		return c - 'a' + 10, true
	}
	return 0, false
}

// isPlain tells whether a byte may stand in quotes without \x.
func isPlain(c byte) bool {
	return c >= ' ' && c <= '~'
}

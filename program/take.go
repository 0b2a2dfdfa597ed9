package program

import (
	"alerts/api"
	"alerts/config"
)

// What numbers of one and of two bytes can be at the most.
const (
	oneByteMost  = 255
	twoBytesMost = 65535
)

// loader walks over the bytes of a program; at is never beyond their end. What
// is taken lies in the program, so that a number which stands further on can
// be held against how many there are.
type loader struct {
	bytes   string
	at      int
	program Program
}

func (l *loader) takeMark() bool {
	if len(l.bytes) < len(mark) || l.bytes[:len(mark)] != mark {
		return false
	}
	l.at = len(mark)
	return true
}

// takeNumber takes a number of so many bytes, the high one first, and answers
// false if it is not there, below the least or above the most that it may be.
func (l *loader) takeNumber(size int, least int, most int) (int, bool) {
	if size > len(l.bytes)-l.at {
		return 0, false
	}
	n := 0
	for i := 0; i < size; i++ {
		n = n*256 + int(l.bytes[l.at])
		l.at++
	}
	return n, n >= least && n <= most
}

// takeText copies the text: the bytes that are handed in are not to be kept
// for the sake of a name.
func (l *loader) takeText(most int) (string, bool) {
	size, ok := l.takeNumber(1, 0, most)
	if !ok || size > len(l.bytes)-l.at {
		return "", false
	}
	start := l.at
	l.at += size
	text := []byte(l.bytes[start:l.at])
	return string(text), true
}

func (l *loader) takeName() (string, bool) {
	name, ok := l.takeText(api.MaxName)
	return name, ok && config.IsName(name)
}

// takeNameList takes how many there are, which is no more than most, and then
// so many names.
func (l *loader) takeNameList(most int) ([]string, bool) {
	count, ok := l.takeNumber(1, 0, most)
	names := []string{}
	for i := 0; ok && i < count; i++ {
		name, nameOK := l.takeName()
		names = append(names, name)
		ok = nameOK
	}
	return names, ok
}

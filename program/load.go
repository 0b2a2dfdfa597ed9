package program

import (
	"alerts/api"
	"alerts/regex"
)

const mostClasses = 256

// Load makes a program of bytes, and answers false if they are none.
func Load(bytes string) (Program, bool) {
	if len(bytes) > api.MaxBytes {
		return Program{}, false
	}
	l := loader{bytes: bytes}
	ok := l.takeMark()
	ok = ok && l.takeNames()
	ok = ok && l.takeConstants()
	ok = ok && l.takeAutomata()
	ok = ok && l.takeTests()
	ok = ok && l.takeRoutes()
	ok = ok && l.takeInstructions()
	if !ok || l.at < len(bytes) {
		return Program{}, false
	}
	return l.program, true
}

func (l *loader) takeNames() bool {
	names, ok := l.takeNameList(oneByteMost)
	l.program.Names = names
	return ok
}

func (l *loader) takeConstants() bool {
	count, ok := l.takeNumber(1, 0, oneByteMost)
	for i := 0; ok && i < count; i++ {
		text, textOK := l.takeText(api.MaxValue)
		l.program.Constants = append(l.program.Constants, text)
		ok = textOK
	}
	return ok
}

func (l *loader) takeAutomata() bool {
	count, ok := l.takeNumber(1, 0, oneByteMost)
	for i := 0; ok && i < count; i++ {
		a, automatonOK := l.takeAutomaton()
		l.program.Automata = append(l.program.Automata, a)
		ok = automatonOK
	}
	return ok
}

func (l *loader) takeAutomaton() (regex.Automaton, bool) {
	states, statesOK := l.takeNumber(1, 1, api.MaxStates)
	classes, classesOK := l.takeNumber(2, 1, mostClasses)
	if !statesOK || !classesOK {
		return regex.Automaton{}, false
	}
	a := regex.Automaton{Classes: classes}
	for c := range a.ClassOf {
		class, ok := l.takeNumber(1, 0, classes-1)
		if !ok {
			return regex.Automaton{}, false
		}
		a.ClassOf[c] = byte(class)
	}
	for i := 0; i < states; i++ {
		accepts, ok := l.takeNumber(1, 0, 1)
		if !ok {
			return regex.Automaton{}, false
		}
		a.Accepts = append(a.Accepts, accepts == 1)
	}
	for i := 0; i < states*classes; i++ {
		next, ok := l.takeNumber(1, 0, states-1)
		if !ok {
			return regex.Automaton{}, false
		}
		a.Next = append(a.Next, next)
	}
	return a, true
}

func (l *loader) takeTests() bool {
	count, ok := l.takeNumber(1, 0, oneByteMost)
	for i := 0; ok && i < count; i++ {
		test, testOK := l.takeTest()
		l.program.Tests = append(l.program.Tests, test)
		ok = testOK
	}
	return ok
}

func (l *loader) takeTest() (Test, bool) {
	names := len(l.program.Names)
	name, nameOK := l.takeNumber(1, 0, names-1)
	kind, kindOK := l.takeNumber(1, Equals, Taken)
	there := len(l.program.Constants)
	if kind == Taken {
		there = len(l.program.Automata)
	}
	number, numberOK := l.takeNumber(1, 0, there-1)
	return Test{Name: name, Kind: kind, Number: number}, nameOK && kindOK && numberOK
}

func (l *loader) takeRoutes() bool {
	count, ok := l.takeNumber(1, 0, api.MaxNodes)
	for i := 0; ok && i < count; i++ {
		hit, hitOK := l.takeHit()
		l.program.Routes = append(l.program.Routes, hit)
		ok = hitOK
	}
	return ok
}

func (l *loader) takeHit() (api.Hit, bool) {
	receiver, receiverOK := l.takeName()
	by, byOK := l.takeNameList(api.MaxBy)
	if !receiverOK || !byOK || !isRising(by) {
		return api.Hit{}, false
	}
	wait, waitOK := l.takeNumber(3, 0, api.MaxTime)
	every, everyOK := l.takeNumber(3, 0, api.MaxTime)
	repeat, repeatOK := l.takeNumber(3, 0, api.MaxTime)
	hit := api.Hit{Receiver: receiver, By: by, Wait: wait, Every: every, Repeat: repeat}
	return hit, waitOK && everyOK && repeatOK
}

func isRising(names []string) bool {
	for i := 1; i < len(names); i++ {
		if names[i-1] >= names[i] {
			return false
		}
	}
	return true
}

func (l *loader) takeInstructions() bool {
	count, ok := l.takeNumber(2, 1, twoBytesMost)
	for i := 0; ok && i < count; i++ {
		in, taken := l.takeInstruction()
		l.program.Instructions = append(l.program.Instructions, in)
		ok = taken && l.program.mayStand(in, i, count)
	}
	return ok
}

func (l *loader) takeInstruction() (Instruction, bool) {
	kind, kindOK := l.takeNumber(1, End, Check)
	number, numberOK := l.takeNumber(1, 0, oneByteMost)
	first, firstOK := l.takeNumber(2, 0, twoBytesMost)
	second, secondOK := l.takeNumber(2, 0, twoBytesMost)
	in := Instruction{Kind: kind, Number: number, First: first, Second: second}
	return in, kindOK && numberOK && firstOK && secondOK
}

// mayStand tells whether this can be the instruction with the number at, of
// count instructions.
func (p *Program) mayStand(in Instruction, at int, count int) bool {
	firstOK := in.First > at && in.First < count
	secondOK := in.Second > at && in.Second < count
	switch in.Kind {
	case End:
		return in.Number == 0 && in.First == 0 && in.Second == 0
	case Send:
		return in.Number < len(p.Routes) && firstOK && in.Second == 0
	case Check:
		return in.Number < len(p.Tests) && firstOK && secondOK
	}
	return false
}

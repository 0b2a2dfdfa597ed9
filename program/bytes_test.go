package program

import (
	"reflect"
	"strings"
	"testing"

	"alerts/api"
	"alerts/regex"
)

// TestSave: each part where it belongs, in the order of the document's table.
func TestSave(t *testing.T) {
	classes := strings.Repeat("\x00", '1') + "\x01" + strings.Repeat("\x00", 255-'1')
	for _, c := range []struct{ s, want string }{
		{"receivers a/route a/", "OB1\x00\x00\x00\x00\x01\x01a\x00\x00\x00\x1e\x00\x01\x2c\x00\x38\x40\x00\x02\x01\x00\x00\x01\x00\x00\x00\x00\x00\x00\x00\x00"},
		{"receivers a/route a by l,k wait 99999 every 0 repeat 258/", "OB1\x00\x00\x00\x00\x01\x01a\x02\x01k\x01l\x01\x86\x9f\x00\x00\x00\x00\x01\x02\x00\x02\x01\x00\x00\x01\x00\x00\x00\x00\x00\x00\x00\x00"},
		{head + " route b if x!=\"12\" if yz=~\"1*\"/", "OB1\x02\x01x\x02yz\x01\x0212\x01\x02\x00\x02" + classes + "\x01\x00\x01\x00\x01\x01\x02\x00\x00\x00\x01\x01\x00\x02\x01a\x00\x00\x00\x1e\x00\x01\x2c\x00\x38\x40\x01b\x00\x00\x00\x1e\x00\x01\x2c\x00\x38\x40\x00\x05\x02\x00\x00\x02\x00\x01\x02\x01\x00\x03\x00\x02\x01\x00\x00\x04\x00\x00\x01\x01\x00\x04\x00\x00\x00\x00\x00\x00\x00\x00"},
	} {
		p := mustCompile(t, c.s)
		if got := p.Save(); got != c.want {
			t.Errorf("P13: %q is saved as %q, want %q", c.s, got, c.want)
		}
	}
}

func TestLoadGivesBack(t *testing.T) {
	for _, s := range []string{head, broad, chain, head + " route b by k,l if x=\"1\"/  route a if x=\"1\"/ route - wait 99999 if x!~\"a|b\" if y=\"a|b\"/"} {
		p := mustCompile(t, s)
		bytes := p.Save()
		q, ok := Load(bytes)
		if !ok || q.Save() != bytes {
			t.Errorf("P13, P14: %q: loaded %v, then saved as %q", s, ok, q.Save())
		}
		same := reflect.DeepEqual(p.Routes, q.Routes) && reflect.DeepEqual(p.Instructions, q.Instructions) && reflect.DeepEqual(p.Automata, q.Automata) && reflect.DeepEqual(p.Tests, q.Tests)
		if !same {
			t.Errorf("P13, P14: %q became %v, then %v", s, p, q)
		}
	}
}

// TestLoadNone: with bytes that are none there is nothing of a program.
func TestLoadNone(t *testing.T) {
	p := mustCompile(t, broad)
	bytes := p.Save()
	for n := range bytes {
		q, ok := Load(bytes[:n])
		if ok || !reflect.DeepEqual(q, Program{}) {
			t.Errorf("P14: the first %d bytes are loaded as %v", n, q)
		}
	}
	for _, s := range []string{bytes + "\x00", bytes[1:], "OB2" + bytes[3:], strings.Repeat("x", api.MaxBytes+1)} {
		q, ok := Load(s)
		if ok || !reflect.DeepEqual(q, Program{}) {
			t.Errorf("P14: %.80q is loaded as %v", s, q)
		}
	}
}

// TestTakeNumber: the bytes of a number, its bounds, and where it is not there.
func TestTakeNumber(t *testing.T) {
	for _, c := range []struct {
		bytes             string
		size, least, most int
		want              int
		ok                bool
	}{
		{"\x07", 1, 0, 255, 7, true}, {"\x01\x02", 2, 0, 65535, 258, true}, {"\x01\x02\x03", 3, 0, 99999, 66051, true}, {"\xff\xff", 2, 0, 65535, 65535, true}, {"\x01\x86\x9f", 3, 0, 99999, 99999, true}, {"\x01\x86\xa0", 3, 0, 99999, 100000, false},
		{"\x00", 1, 1, 40, 0, false}, {"\x01", 1, 1, 40, 1, true}, {"\x28", 1, 1, 40, 40, true}, {"\x29", 1, 1, 40, 41, false}, {"\x00", 1, 0, -1, 0, false}, {"", 1, 0, 255, 0, false}, {"\x01", 2, 0, 65535, 0, false}, {"\x01\x02", 3, 0, 99999, 0, false},
	} {
		l := loader{bytes: c.bytes}
		got, ok := l.takeNumber(c.size, c.least, c.most)
		if got != c.want || ok != c.ok || l.at > len(c.bytes) {
			t.Errorf("%q: %d, %v, at %d, want %d, %v", c.bytes, got, ok, l.at, c.want, c.ok)
		}
	}
}

// TestSaveWrongPrograms: what was not compiled may have numbers that no byte
// can tell; Save ends all the same.
func TestSaveWrongPrograms(t *testing.T) {
	for _, p := range []Program{
		{}, {Names: []string{strings.Repeat("n", 300)}}, {Constants: make([]string, 300)}, {Automata: []regex.Automaton{{}, {Classes: -1, Next: []int{-1, 1 << 40}}}}, {Tests: []Test{{-1, -1, 1 << 40}}}, {Routes: []api.Hit{{Wait: -1, Every: 1 << 40}}}, {Instructions: []Instruction{{-1, -1, -1, 1 << 40}}}, {Instructions: make([]Instruction, 70000)},
	} {
		bytes := p.Save()
		if _, ok := Load(bytes); ok {
			t.Errorf("%.80q is a program", bytes)
		}
	}
}

// TestLoadOwns: a program that was loaded shares nothing with another one.
func TestLoadOwns(t *testing.T) {
	compiled := mustCompile(t, "receivers a/route a by k,l/")
	bytes := compiled.Save()
	p, _ := Load(bytes)
	q, _ := Load(bytes)
	p.Routes[0].By[0] = "written"
	p.Routes[0].Receiver = "written"
	p.Instructions[0].Kind = End
	if q.Save() != bytes || compiled.Save() != bytes {
		t.Errorf("P1: the bytes of another program were changed: %q", q.Save())
	}
}

package program

import (
	"reflect"
	"strings"
	"testing"

	"alerts/api"
	"alerts/config"
)

// text: a slash is a line's end.
func text(s string) string { return strings.ReplaceAll(s, "/", "\n") }

func mustCompile(t *testing.T, s string) Program {
	t.Helper()
	c, e, line := config.Read(text(s))
	if e != api.OK {
		t.Fatalf("Read(%q): %d, line %d", s, e, line)
	}
	p, e, line := Compile(c)
	if e != api.OK || line != 0 {
		t.Fatalf("Compile(%q): %d, line %d", s, e, line)
	}
	return p
}

const head = "receivers a b/route a/"

// broad, chain: the trees with the most routes, side by side and one below the other.
var (
	broad = head + strings.Repeat(" route b if w=\"\" if x!=\"1\" if y=~\"2\" if z!~\"3\" continue/", 15)
	chain = head + strings.Repeat(" route b if w=\"1\" continue/  route - if x!=\"2\" continue/   route - continue/    route b if w=\"1\" continue/     route - if x=~\"2\" continue/", 3)
)

func TestInstructions(t *testing.T) {
	for _, c := range []struct {
		s    string
		want []Instruction
	}{
		{"receivers a/route a/", []Instruction{{Send, 0, 1, 0}, {End, 0, 0, 0}}},
		{head + " route b/", []Instruction{{Send, 1, 1, 0}, {End, 0, 0, 0}}},
		{head + " route b if x=\"1\"/", []Instruction{{Check, 0, 2, 1}, {Send, 0, 3, 0}, {Send, 1, 3, 0}, {End, 0, 0, 0}}},
		{head + " route b if x!=\"1\"/", []Instruction{{Check, 0, 1, 2}, {Send, 0, 3, 0}, {Send, 1, 3, 0}, {End, 0, 0, 0}}},
		{head + " route b if x=\"1\" if y!~\"2\"/", []Instruction{{Check, 0, 1, 2}, {Check, 1, 2, 3}, {Send, 0, 4, 0}, {Send, 1, 4, 0}, {End, 0, 0, 0}}},
		{head + " route b continue/ route a if x=\"1\"/", []Instruction{{Send, 1, 1, 0}, {Check, 0, 2, 3}, {Send, 2, 3, 0}, {End, 0, 0, 0}}},
		{head + " route b/ route a if x=\"1\"/", []Instruction{{Send, 1, 1, 0}, {End, 0, 0, 0}}},
	} {
		got := mustCompile(t, c.s).Instructions
		if !reflect.DeepEqual(got, c.want) {
			t.Errorf("%q becomes %v, want %v", c.s, got, c.want)
		}
	}
}

// TestPrograms: all numbers are of things that are there, all targets are
// greater, and every route is sent at one place.
func TestPrograms(t *testing.T) {
	for _, s := range []string{head, broad, chain, head + " route b if x=\"1\"/  route a if x=\"1\"/ route - if x!~\"a|b\" if y=\"a|b\"/", head + " route b/ route a/  route -/"} {
		p := mustCompile(t, s)
		last := len(p.Instructions) - 1
		if last > 2*4*15+16 {
			t.Errorf("%q has %d instructions", s, last+1)
		}
		sent := make([]bool, len(p.Routes))
		for i, in := range p.Instructions {
			switch {
			case in.Kind == End && i == last && in == Instruction{}:
			case in.Kind == Send && in.Number < len(p.Routes) && !sent[in.Number] && in.First > i && in.First <= last && in.Second == 0:
				sent[in.Number] = true
			case in.Kind == Check && in.Number < len(p.Tests) && in.First > i && in.First <= last && in.Second > i && in.Second <= last && in.First != in.Second:
			default:
				t.Errorf("%q: instruction %d is %v", s, i, in)
			}
		}
		for _, test := range p.Tests {
			there := []int{len(p.Constants), len(p.Automata)}[test.Kind]
			if test.Name >= len(p.Names) || test.Number >= there {
				t.Errorf("%q: the test %v asks for what is not there", s, test)
			}
		}
	}
}

// TestOneOfEach: what stands twice in a configuration stands once in its program.
func TestOneOfEach(t *testing.T) {
	p := mustCompile(t, head+" route b if x=\"1\" if x=~\"1\" if y=\"1\" if y!~\"1\"/ route a if x!=\"1\" if x!~\"1\" if y=\"\" if y=\"1\"/")
	tests := []Test{{0, Equals, 0}, {0, Taken, 0}, {1, Equals, 0}, {1, Taken, 0}, {1, Equals, 1}}
	if !reflect.DeepEqual(p.Names, []string{"x", "y"}) || !reflect.DeepEqual(p.Constants, []string{"1", ""}) || len(p.Automata) != 1 || !reflect.DeepEqual(p.Tests, tests) {
		t.Errorf("%q, %q, %d automata, %v", p.Names, p.Constants, len(p.Automata), p.Tests)
	}
}

func TestFaults(t *testing.T) {
	for _, c := range []struct {
		s    string
		e    api.Errno
		line int
	}{
		{head + " route b if x=~\"a\" if x!~\"(\" if x=~\"a{9}{5}\"/", api.ErrRegex, 3}, {head + " route b if x=~\"a\"/ route b if x=~\"a\" if x=~\"a{9}{5}\"/ route b if x=~\"(\"/", api.ErrLarge, 4}, {head + " route b if x=\"(\"/  route b if x!=\"(\"/   route b if x!~\".*a.{5}\"/", api.ErrStates, 5},
	} {
		read, _, _ := config.Read(text(c.s))
		p, e, line := Compile(read)
		if !reflect.DeepEqual(p, Program{}) || e != c.e || line != c.line {
			t.Errorf("P9: Compile(%q) = %v, %d, line %d, want %d, line %d", c.s, p, e, line, c.e, c.line)
		}
	}
}

// TestNoRoutes: a configuration that was not read may have none.
func TestNoRoutes(t *testing.T) {
	p, e, line := Compile(config.Config{})
	if hits := p.Run(nil); len(hits) != 0 || len(p.Instructions) != 1 || e != api.OK || line != 0 {
		t.Errorf("%v, %d, line %d", p, e, line)
	}
}

func told(hits []api.Hit) string {
	s := ""
	for _, h := range hits {
		s += h.Receiver
	}
	return s
}

// TestRun: programs that no configuration is compiled into, wrong ones too: all end.
func TestRun(t *testing.T) {
	p := mustCompile(t, "receivers a b c/route a/ route b if x=\"1\"/ route c if y=~\"[12]\"/")
	for _, c := range []struct {
		code []Instruction
		l    []api.Label
		want string
	}{
		{nil, nil, ""}, {[]Instruction{{}}, nil, ""}, {[]Instruction{{Send, 2, 1, 0}, {Send, 2, 2, 0}, {Send, 0, 3, 0}, {}}, nil, "cca"}, {[]Instruction{{Send, 0, 2, 0}, {Send, 1, 2, 0}, {}, {Send, 2, 4, 0}, {}}, nil, "a"},
		{[]Instruction{{Check, 0, 1, 2}, {Send, 1, 2, 0}, {Check, 1, 4, 3}, {Send, 0, 4, 0}, {}}, []api.Label{{Name: "x", Value: "1"}}, "ba"}, {[]Instruction{{Check, 0, 1, 2}, {Send, 1, 2, 0}, {Check, 1, 4, 3}, {Send, 0, 4, 0}, {}}, []api.Label{{Name: "y", Value: "2"}}, ""},
		{[]Instruction{{Send, 0, 0, 0}, {}}, nil, "a"}, {[]Instruction{{Send, 0, 1, 0}, {Send, 1, 0, 0}}, nil, "ab"}, {[]Instruction{{Send, 0, 1, 0}, {Send, 1, 1, 0}, {Send, 2, 3, 0}, {}}, nil, "ab"}, {[]Instruction{{Send, 0, 9, 0}, {}}, nil, "a"}, {[]Instruction{{Send, 0, -1, 0}, {}}, nil, "a"}, {[]Instruction{{Send, 3, 1, 0}, {Send, -1, 2, 0}, {Send, 1, 3, 0}, {}}, nil, "b"}, {[]Instruction{{3, 0, 1, 0}, {Send, 0, 2, 0}, {}}, nil, ""}, {[]Instruction{{-1, 0, 1, 0}, {Send, 0, 2, 0}, {}}, nil, ""},
		{[]Instruction{{Check, 2, 1, 2}, {Send, 0, 3, 0}, {Send, 1, 3, 0}, {}}, nil, "b"}, {[]Instruction{{Check, -1, 1, 2}, {Send, 0, 3, 0}, {Send, 1, 3, 0}, {}}, nil, "b"}, {[]Instruction{{Check, 0, 1, 0}, {Send, 0, 2, 0}, {}}, nil, ""},
	} {
		p.Instructions = c.code
		got := p.Run(c.l)
		if told(got) != c.want {
			t.Errorf("%v sends %v to %q, want %q", c.code, c.l, told(got), c.want)
		}
	}
}

// TestWrongTests: a test of what is not there does not hold.
func TestWrongTests(t *testing.T) {
	p := mustCompile(t, head+" route b if x=\"\" if x=~\"\"/")
	for _, c := range []struct {
		test  Test
		holds bool
	}{
		{Test{0, Equals, 0}, true}, {Test{0, Taken, 0}, true}, {Test{1, Equals, 0}, false}, {Test{-1, Equals, 0}, false}, {Test{0, Equals, 1}, false}, {Test{0, Equals, -1}, false}, {Test{0, Taken, 1}, false}, {Test{0, Taken, -1}, false}, {Test{0, 2, 0}, false}, {Test{0, -1, 0}, false},
	} {
		p.Tests = []Test{c.test}
		p.Instructions = []Instruction{{Check, 0, 2, 1}, {Send, 0, 3, 0}, {Send, 1, 3, 0}, {}}
		want := "a"
		if c.holds {
			want = "b"
		}
		if got := told(p.Run(nil)); got != want {
			t.Errorf("%v: %q, want %q", c.test, got, want)
		}
	}
}

// TestRunOwns: hits of one route that is sent twice share nothing.
func TestRunOwns(t *testing.T) {
	p := mustCompile(t, "receivers a/route a by k,l/")
	p.Instructions = []Instruction{{Send, 0, 1, 0}, {Send, 0, 2, 0}, {}}
	want := api.Hit{Receiver: "a", By: []string{"k", "l"}, Wait: 30, Every: 300, Repeat: 14400}
	hits := p.Run(nil)
	hits[0].By[0] = "written"
	if !reflect.DeepEqual(hits[1], want) || cap(hits[1].By) != 2 || !reflect.DeepEqual(p.Run(nil), []api.Hit{want, want}) {
		t.Errorf("P1: %v, then %v", hits, p.Run(nil))
	}
}

func TestAreLabels(t *testing.T) {
	label := func(name string, n int) api.Label { return api.Label{Name: name, Value: strings.Repeat("v", n)} }
	twelve := []api.Label{}
	for _, name := range strings.Split("abcdefghijkl", "") {
		twelve = append(twelve, label(name, 40))
	}
	for _, c := range []struct {
		l    []api.Label
		want bool
	}{
		{nil, true}, {twelve, true}, {append(twelve[:12:12], label("m", 0)), false}, {append(twelve[:11:11], label("a", 0)), false}, {append(twelve[:11:11], label("k", 40)), false}, {append(twelve[:11:11], label("A", 0)), true},
		{[]api.Label{label("x", 41)}, false}, {[]api.Label{label("x", 40)}, true}, {[]api.Label{label("", 0)}, false}, {[]api.Label{label("abcdefgh", 0)}, true}, {[]api.Label{label("abcdefghi", 0)}, false}, {[]api.Label{label("1", 0)}, false}, {[]api.Label{label("x", 1), label("-", 1)}, false}, {[]api.Label{label("x", 1), label("y", 41)}, false},
	} {
		if AreLabels(c.l) != c.want {
			t.Errorf("P10: %v are labels: want %v", c.l, c.want)
		}
	}
}

package alerts

import (
	"fmt"
	"strings"
	"testing"

	"alerts/api"
)

// numbers: each of so many bytes, the high one first.
func numbers(size int, l ...int) string {
	b := []byte{}
	for _, n := range l {
		for i := size - 1; i >= 0; i-- {
			b = append(b, byte(n>>(8*i)))
		}
	}
	return string(b)
}

// word: a text with its length ahead.
func word(s string) string { return numbers(1, len(s)) + s }

func hitBytes(receiver string, by []string, times ...int) string {
	b := word(receiver) + numbers(1, len(by))
	for _, name := range by {
		b += word(name)
	}
	return b + numbers(3, times...)
}

func instruction(kind, number, first, second int) string {
	return numbers(1, kind, number) + numbers(2, first, second)
}

// parts: the bytes of a program, so that one of them can be another.
type parts struct{ names, constants, automata, tests, routes, code []string }

func (w parts) bytes() string {
	b := "OB1"
	for _, part := range [][]string{w.names, w.constants, w.automata, w.tests, w.routes} {
		b += numbers(1, len(part)) + strings.Join(part, "")
	}
	return b + numbers(2, len(w.code)) + strings.Join(w.code, "")
}

// automaton: bytes are of class 0 but for those that are told.
func automaton(states, classes int, of map[byte]int, ends, next string) string {
	class := make([]byte, 256)
	for b, n := range of {
		class[b] = byte(n)
	}
	return numbers(1, states) + numbers(2, classes) + string(class) + ends + next
}

// ones takes any number of the byte 1, but none is too few.
var ones = automaton(3, 2, map[byte]int{'1': 1}, "\x00\x01\x00", "\x02\x01\x02\x01\x02\x02")

// The document's two examples.
const (
	small = "OB1\x00\x00\x00\x00\x01\x01a\x00\x00\x00\x1e\x00\x01\x2c\x00\x38\x40\x00\x02\x01\x00\x00\x01\x00\x00\x00\x00\x00\x00\x00\x00"
	none  = "OB1\x00\x00\x00\x00\x00\x00\x01\x00\x00\x00\x00\x00\x00"
)

// full: a program with some of each; b if x is 1, then a if y is of ones, else c.
func full() parts {
	return parts{
		names:     []string{word("x"), word("y")},
		constants: []string{word("1")},
		automata:  []string{ones},
		tests:     []string{numbers(1, 0, 0, 0), numbers(1, 1, 1, 0)},
		routes:    []string{hitBytes("a", nil, 30, 300, 14400), hitBytes("b", []string{"k", "l"}, 30, 300, 14400), hitBytes("c", nil, 0, 1, 99999)},
		code:      []string{instruction(2, 0, 1, 2), instruction(1, 1, 2, 0), instruction(2, 1, 3, 4), instruction(1, 0, 5, 0), instruction(1, 2, 5, 0), instruction(0, 0, 0, 0)},
	}
}

func mustLoad(t *testing.T, b string) *Program {
	t.Helper()
	p, e := Load(b)
	if e != api.OK || p == nil {
		t.Fatalf("P14: Load(%.700q) = %v, %d", b, p != nil, e)
	}
	return p
}

func checkNone(t *testing.T, what, b string) {
	t.Helper()
	p, e := Load(b)
	if p != nil || e != api.ErrBytes {
		t.Errorf("P14: %s: Load(%.300q) = %v, %d, want %d", what, b, p != nil, e, api.ErrBytes)
	}
}

func checkLoaded(t *testing.T, what, b string, l []api.Label, want string) {
	t.Helper()
	p := mustLoad(t, b)
	hits, e := p.Route(l)
	if told(hits) != want || e != api.OK {
		t.Errorf("P12, P14: %s: %q is sent to %q, %d, want %q", what, l, told(hits), e, want)
	}
	if p.Save() != b {
		t.Errorf("P13: %s: %.300q is saved as %.300q", what, b, p.Save())
	}
}

func TestP12Examples(t *testing.T) {
	for _, l := range [][]api.Label{nil, labels("x", "1"), others(12)} {
		checkLoaded(t, "the first example", small, l, "a")
		checkLoaded(t, "the second example", none, l, "")
	}
}

func TestP12Sends(t *testing.T) {
	for _, c := range []struct {
		l    []api.Label
		want string
	}{
		{nil, "c 0 1 99999"}, {labels("x", "1"), "b k l; c 0 1 99999"}, {labels("y", "1"), "a"}, {labels("y", "111", "x", "1"), "b k l; a"}, {labels("x", "11", "y", "112"), "c 0 1 99999"}, {labels("y", strings.Repeat("1", 40)), "a"}, {labels("X", "1", "z", "1"), "c 0 1 99999"},
	} {
		checkLoaded(t, "a full program", full().bytes(), c.l, c.want)
	}
}

// TestP12Code: what is sent by instructions that no configuration is compiled into.
func TestP12Code(t *testing.T) {
	end := instruction(0, 0, 0, 0)
	for _, c := range []struct {
		what string
		code []string
		want string // with x 1
	}{
		{"ends at once", []string{end, instruction(1, 0, 2, 0), end}, ""}, {"the same route twice", []string{instruction(1, 0, 1, 0), instruction(1, 0, 2, 0), end}, "a; a"}, {"goes over some", []string{instruction(1, 0, 3, 0), instruction(1, 1, 2, 0), end, instruction(1, 2, 2+2, 0), end}, "a; c 0 1 99999"},
		{"both targets the same", []string{instruction(2, 0, 1, 1), instruction(1, 0, 2, 0), end}, "a"}, {"the second target", []string{instruction(2, 1, 2, 1), instruction(1, 0, 2, 0), end}, "a"}, {"the first target", []string{instruction(2, 0, 2, 1), instruction(1, 0, 2, 0), end}, ""}, {"the same test twice", []string{instruction(2, 0, 1, 3), instruction(2, 0, 2, 3), instruction(1, 1, 3, 0), end}, "b k l"}, {"many ends", []string{end, end, end}, ""},
	} {
		w := full()
		w.code = c.code
		checkLoaded(t, c.what, w.bytes(), labels("x", "1"), c.want)
	}
}

// TestP12Automata: state 0 is the first, classes are of bytes, and the edges.
func TestP12Automata(t *testing.T) {
	all := map[byte]int{}
	for c := range 256 {
		all[byte(c)] = c
	}
	last := strings.Repeat("\x00", 255) + "\x01"
	for _, c := range []struct {
		what, automaton string
		taken, other    []string
	}{
		{"one state that accepts", automaton(1, 1, nil, "\x01", "\x00"), []string{"", "a", "\x00\xff"}, nil}, {"one that does not", automaton(1, 1, nil, "\x00", "\x00"), nil, []string{"", "a", "\x00\xff"}}, {"the empty text", automaton(2, 1, nil, "\x01\x00", "\x01\x01"), []string{""}, []string{"a", "aa"}}, {"an even number of bytes", automaton(2, 1, nil, "\x01\x00", "\x01\x00"), []string{"", "ab", "\x00\xff\x80 "}, []string{"a", "abc"}},
		{"256 classes", automaton(2, 256, all, "\x00\x01", last+last), []string{"\xff", "a\xff", "\x00\xff\xff"}, []string{"", "a", "\xff\x00"}}, {"40 states", automaton(40, 1, nil, strings.Repeat("\x00", 39)+"\x01", chained(40)), []string{strings.Repeat("a", 39), strings.Repeat("\xff", 40)}, []string{"", strings.Repeat("a", 38)}}, {"40 states of 256 classes", automaton(40, 256, all, strings.Repeat("\x01", 40), strings.Repeat("\x27", 40*256)), []string{"", "\xff"}, nil}, {"a class of no byte", automaton(1, 7, nil, "\x01", strings.Repeat("\x00", 7)), []string{"", "a"}, nil},
	} {
		w := full()
		w.automata = []string{ones, c.automaton}
		w.tests = []string{numbers(1, 0, 1, 1)}
		w.code = []string{instruction(2, 0, 1, 2), instruction(1, 0, 2, 0), instruction(0, 0, 0, 0)}
		for _, value := range c.taken {
			checkLoaded(t, c.what, w.bytes(), labels("x", value), "a")
		}
		for _, value := range c.other {
			checkLoaded(t, c.what, w.bytes(), labels("x", value), "")
		}
	}
}

// chained: each state leads to the next, the last to itself.
func chained(states int) string {
	next := ""
	for i := range states {
		next += numbers(1, min(i+1, states-1))
	}
	return next
}

// copies: a list of the same.
func copies(n int, s string) []string {
	list := []string{}
	for range n {
		list = append(list, s)
	}
	return list
}

// TestP12Edges: as much of each as there may be.
func TestP12Edges(t *testing.T) {
	for _, c := range []struct {
		what   string
		change func(w *parts)
	}{
		{"names of 8 bytes", func(w *parts) { w.names = []string{word("abcdefgh"), word("_9Zz_09A")} }}, {"255 names", func(w *parts) { w.names = copies(255, word("x")) }}, {"the last of 255 names", func(w *parts) {
			w.names = copies(255, word("x"))
			w.tests[1] = numbers(1, 254, 0, 0)
		}},
		{"an empty constant", func(w *parts) { w.constants = []string{word("")} }}, {"a constant of 40 bytes", func(w *parts) { w.constants = []string{word(strings.Repeat("\xff", 40))} }}, {"255 constants", func(w *parts) { w.constants = copies(255, word("\x00")) }}, {"the last of 255 constants", func(w *parts) {
			w.constants = copies(255, word(""))
			w.tests[0] = numbers(1, 0, 0, 254)
		}},
		{"255 automata", func(w *parts) {
			w.automata = copies(255, automaton(1, 1, nil, "\x01", "\x00"))
			w.tests[1] = numbers(1, 0, 1, 254)
		}}, {"24 automata that are the greatest", func(w *parts) {
			w.automata = copies(24, automaton(40, 256, map[byte]int{7: 255}, strings.Repeat("\x01", 40), strings.Repeat("\x27", 40*256)))
		}},
		{"255 tests", func(w *parts) {
			w.tests = copies(255, numbers(1, 1, 1, 0))
			w.code[0] = instruction(2, 254, 1, 2)
		}},
		{"16 routes", func(w *parts) {
			w.routes = copies(16, hitBytes("a", nil, 1, 2, 3))
			w.code[1] = instruction(1, 15, 2, 0)
		}}, {"a receiver of 8 bytes", func(w *parts) { w.routes[0] = hitBytes("_bcdefg9", nil, 1, 2, 3) }}, {"four labels", func(w *parts) {
			w.routes[0] = hitBytes("a", []string{"B", "a", "aa", "abcdefgh"}, 99999, 99999, 99999)
		}}, {"times of nought", func(w *parts) { w.routes[0] = hitBytes("a", nil, 0, 0, 0) }},
		{"nothing but the end", func(w *parts) { *w = parts{code: []string{instruction(0, 0, 0, 0)}} }}, {"what no instruction names", func(w *parts) { w.code = []string{instruction(0, 0, 0, 0)} }}, {"43000 instructions", func(w *parts) { w.code = copies(43000, instruction(0, 0, 0, 0)) }},
	} {
		w := full()
		c.change(&w)
		b := w.bytes()
		if !checkBytes(t, b, [][]api.Label{nil, labels("x", "1")}) {
			t.Errorf("P12: %s: %.300q should have been a program", c.what, b)
		}
	}
}

// TestP12Targets: a target that takes both of its bytes, in a long row of sends.
func TestP12Targets(t *testing.T) {
	w := full()
	w.code = []string{instruction(2, 0, 1, 1000)}
	for i := 1; i < 1000; i++ {
		w.code = append(w.code, instruction(1, 0, i+1, 0))
	}
	w.code = append(w.code, instruction(1, 1, 1001, 0), instruction(0, 0, 0, 0))
	checkLoaded(t, "over 999 sends", w.bytes(), nil, "b k l")
	checkLoaded(t, "all the sends", w.bytes(), labels("x", "1"), strings.Repeat("a; ", 999)+"b k l")
}

// TestP12Bytes: 2^18 bytes are a program, one more are none.
func TestP12Bytes(t *testing.T) {
	w := parts{code: copies(43689, instruction(0, 0, 0, 0))}
	greatest := w.bytes()
	if len(greatest) != 1<<18 {
		t.Fatalf("%d bytes", len(greatest))
	}
	checkLoaded(t, "2^18 bytes", greatest, labels("x", "1"), "")
	w.constants = []string{word("")}
	checkNone(t, "2^18 bytes and one", w.bytes())
	w.code = w.code[1:]
	checkLoaded(t, "five bytes less", w.bytes(), nil, "")
	checkNone(t, "very many bytes", strings.Repeat(none, 100000))
}

func TestP12WrongParts(t *testing.T) {
	for _, c := range []struct {
		what   string
		change func(w *parts)
	}{
		{"no name", func(w *parts) { w.names[0] = word("") }}, {"a name of 9 bytes", func(w *parts) { w.names[0] = word("abcdefghi") }}, {"a digit ahead", func(w *parts) { w.names[1] = word("9x") }}, {"a name that is -", func(w *parts) { w.names[0] = word("-") }}, {"a name with a blank", func(w *parts) { w.names[0] = word("x ") }}, {"a name that is not ASCII", func(w *parts) { w.names[0] = word("\xe4") }}, {"a name with a nought", func(w *parts) { w.names[0] = word("x\x00") }},
		{"a constant of 41 bytes", func(w *parts) { w.constants[0] = word(strings.Repeat("v", 41)) }}, {"a constant of 255 bytes", func(w *parts) { w.constants[0] = word(strings.Repeat("v", 255)) }},
		{"no states", func(w *parts) { w.automata[0] = automaton(0, 1, nil, "", "") }}, {"41 states", func(w *parts) {
			w.automata[0] = automaton(41, 1, nil, strings.Repeat("\x00", 41), strings.Repeat("\x00", 41))
		}}, {"no classes", func(w *parts) { w.automata[0] = automaton(1, 0, nil, "\x00", "") }}, {"257 classes", func(w *parts) { w.automata[0] = automaton(1, 257, nil, "\x00", strings.Repeat("\x00", 257)) }}, {"a class that is not there", func(w *parts) { w.automata[0] = automaton(1, 2, map[byte]int{255: 2}, "\x00", "\x00\x00") }}, {"the first byte's class", func(w *parts) { w.automata[0] = automaton(1, 1, map[byte]int{0: 1}, "\x00", "\x00") }}, {"accepts with 2", func(w *parts) { w.automata[0] = automaton(2, 1, nil, "\x00\x02", "\x00\x01") }}, {"accepts with 255", func(w *parts) { w.automata[0] = automaton(1, 1, nil, "\xff", "\x00") }}, {"a state that is not there", func(w *parts) { w.automata[0] = automaton(2, 2, nil, "\x00\x01", "\x00\x01\x01\x02") }}, {"a state too many", func(w *parts) { w.automata[0] = automaton(1, 1, nil, "\x00", "\x00\x00") }},
		{"a name that is not there", func(w *parts) { w.tests[0] = numbers(1, 2, 0, 0) }}, {"a kind of test that is none", func(w *parts) { w.tests[0] = numbers(1, 0, 2, 0) }}, {"a constant that is not there", func(w *parts) {
			w.automata = copies(2, ones)
			w.tests[0] = numbers(1, 0, 0, 1)
		}}, {"an automaton that is not there", func(w *parts) {
			w.constants = copies(2, word("1"))
			w.tests[0] = numbers(1, 0, 1, 1)
		}}, {"tests without names", func(w *parts) { w.names = nil }}, {"tests without constants", func(w *parts) { w.constants = nil }}, {"tests without automata", func(w *parts) { w.automata = nil }}, {"a wrong test that is not asked for", func(w *parts) { w.tests = append(w.tests, numbers(1, 9, 0, 0)) }},
		{"17 routes", func(w *parts) { w.routes = copies(17, hitBytes("a", nil, 1, 2, 3)) }}, {"a receiver that is -", func(w *parts) { w.routes[0] = hitBytes("-", nil, 1, 2, 3) }}, {"no receiver", func(w *parts) { w.routes[0] = hitBytes("", nil, 1, 2, 3) }}, {"a receiver of 9 bytes", func(w *parts) { w.routes[0] = hitBytes("abcdefghi", nil, 1, 2, 3) }}, {"five labels", func(w *parts) { w.routes[0] = hitBytes("a", []string{"a", "b", "c", "d", "e"}, 1, 2, 3) }}, {"labels that fall", func(w *parts) { w.routes[0] = hitBytes("a", []string{"a", "c", "b"}, 1, 2, 3) }}, {"a label twice", func(w *parts) { w.routes[0] = hitBytes("a", []string{"a", "b", "b"}, 1, 2, 3) }}, {"a label twice, not side by side", func(w *parts) { w.routes[0] = hitBytes("a", []string{"a", "b", "a"}, 1, 2, 3) }}, {"a label ahead of what it begins with", func(w *parts) { w.routes[0] = hitBytes("a", []string{"ab", "a"}, 1, 2, 3) }}, {"small letters ahead of great ones", func(w *parts) { w.routes[0] = hitBytes("a", []string{"a", "B"}, 1, 2, 3) }}, {"a label that is no name", func(w *parts) { w.routes[0] = hitBytes("a", []string{"9"}, 1, 2, 3) }}, {"an empty label", func(w *parts) { w.routes[0] = hitBytes("a", []string{""}, 1, 2, 3) }},
		{"wait of 100000", func(w *parts) { w.routes[0] = hitBytes("a", nil, 100000, 0, 0) }}, {"every of 100000", func(w *parts) { w.routes[2] = hitBytes("a", nil, 0, 100000, 0) }}, {"repeat of 100000", func(w *parts) { w.routes[1] = hitBytes("a", nil, 0, 0, 100000) }}, {"wait of 2^24 - 1", func(w *parts) { w.routes[0] = hitBytes("a", nil, 1<<24-1, 0, 0) }},
		{"no instruction", func(w *parts) { w.code = nil }}, {"no parts at all", func(w *parts) { *w = parts{} }},
	} {
		w := full()
		c.change(&w)
		checkNone(t, c.what, w.bytes())
	}
}

func TestP12WrongInstructions(t *testing.T) {
	for _, c := range []struct {
		what, in string
		at       int
	}{
		{"an end with a number", instruction(0, 1, 0, 0), 5}, {"an end with a first target", instruction(0, 0, 5, 0), 0}, {"an end with a second target", instruction(0, 0, 0, 5), 0}, {"an end with the target 256", instruction(0, 0, 256, 0), 5}, {"a kind that is none", instruction(3, 0, 5, 5), 0}, {"a kind that is none, with noughts", instruction(3, 0, 0, 0), 5}, {"the kind 255", instruction(255, 0, 0, 0), 5},
		{"a route that is not there", instruction(1, 3, 5, 0), 0}, {"a send with a second target", instruction(1, 0, 5, 5), 0}, {"a send to itself", instruction(1, 0, 3, 0), 3}, {"a send back", instruction(1, 0, 2, 0), 3}, {"a send to 0", instruction(1, 0, 0, 0), 3}, {"a send beyond the end", instruction(1, 0, 6, 0), 3}, {"a send far beyond", instruction(1, 0, 0x0401, 0), 3}, {"a send to 65535", instruction(1, 0, 65535, 0), 3}, {"a send as the last", instruction(1, 0, 6, 0), 5},
		{"a test that is not there", instruction(2, 2, 5, 5), 0}, {"a first target that is itself", instruction(2, 0, 2, 5), 2}, {"a second target that is itself", instruction(2, 0, 5, 2), 2}, {"a first target back", instruction(2, 0, 1, 5), 2}, {"a second target back", instruction(2, 0, 5, 1), 2}, {"a first target of 0", instruction(2, 0, 0, 5), 0}, {"a second target of 0", instruction(2, 0, 5, 0), 0}, {"a first target beyond", instruction(2, 0, 6, 5), 0}, {"a second target beyond", instruction(2, 0, 5, 6), 0}, {"a test as the last", instruction(2, 0, 5, 5), 5},
		{"an instruction that lacks a byte", instruction(0, 0, 0, 0)[1:], 5}, {"a byte behind the last", instruction(0, 0, 0, 0) + "\x00", 5}, {"an instruction behind the last", instruction(0, 0, 0, 0) + instruction(0, 0, 0, 0), 5}, {"one too few", "", 5},
	} {
		w := full()
		w.code[c.at] = c.in
		checkNone(t, c.what, w.bytes())
	}
	// No run comes to it, but it is none all the same.
	w := full()
	w.code = []string{instruction(0, 0, 0, 0), instruction(1, 9, 2, 0), instruction(0, 0, 0, 0)}
	checkNone(t, "a wrong one that no run comes to", w.bytes())
	w.routes, w.code[1] = nil, instruction(1, 0, 2, 0)
	checkNone(t, "a send without routes", w.bytes())
	w.tests, w.code[1] = nil, instruction(2, 0, 2, 2)
	checkNone(t, "a test without tests", w.bytes())
}

func TestP14NoProgram(t *testing.T) {
	for _, b := range []string{"", "O", "OB", "OB1", "OB1\x00", "OB2" + none[3:], "ob1" + none[3:], "OB\x01" + none[3:], " " + none, none + "\x00", none + none, none[:len(none)-1], none[3:], "\x00" + none[1:], strings.Repeat("\x00", 100), strings.Repeat("\xff", 100), "OB1" + strings.Repeat("\xff", 1000), "OB1" + strings.Repeat("\x01", 2000), text(tree)} {
		checkNone(t, "no program", b)
	}
	for _, b := range []string{small, none, full().bytes(), mustCompile(t, tree).Save()} {
		for n := range b {
			checkNone(t, fmt.Sprint("the first ", n), b[:n])
		}
	}
}

// TestP14Labels: P10 holds of what was loaded, whatever it asks for.
func TestP14Labels(t *testing.T) {
	for _, b := range []string{small, none, full().bytes()} {
		p := mustLoad(t, b)
		for _, l := range [][]api.Label{labels("", "x"), labels("9", "x"), labels("abcdefghi", ""), labels("x", "1", "x", "1"), labels("x", strings.Repeat("v", 41)), others(13)} {
			hits, e := p.Route(l)
			if hits != nil || e != api.ErrLabels {
				t.Errorf("P10: Route(%.80q) = %v, %d", l, hits, e)
			}
		}
	}
	checkLoaded(t, "the greatest labels", full().bytes(), append(others(11), labels("y", strings.Repeat("1", 40))...), "a")
	checkLoaded(t, "another order", full().bytes(), labels("y", "1", "x", "1"), "b k l; a")
	checkLoaded(t, "and the other", full().bytes(), labels("x", "1", "y", "1"), "b k l; a")
}

// greatest: the configurations whose programs have the most of something.
var greatest = []string{
	head + strings.Repeat(" route b/", 15), sized(1200),
	"receivers abcdefgh b/route abcdefgh by abcdefgh,bbbbbbbb,cccccccc,dddddddd wait 99999 every 99999 repeat 99999/" + strings.Repeat(" route -/", 15),
	head + strings.Repeat(" route b if w=\"\" if x!=\"1\" if y=~\"2\" if z!~\"3\" continue/", 15),
	head + lettered(15, ` if @=~"@" if @!~"@+" if @="@*" if @!="@?"`),
	head + lettered(15, ` if x=~".{9}{4}@" if @=~"@*"`),
	head + lettered(15, ` if x=~"[@0-9][A-Cb-y]{4}[E-Gz]|13579acegikm"`),
	head + lettered(15, ` if x=~"0123456789=:;<>bcdefghijklmnopqrstu@"`),
}

// lettered: so many routes, each with a letter of its own in the places of @.
func lettered(n int, rest string) string {
	s := ""
	for i := range n {
		s += " route b" + strings.ReplaceAll(rest, "@", string(rune('A'+i))) + "/"
	}
	return s
}

func TestP13Saved(t *testing.T) {
	lists := append([][]api.Label{labels("x", "1", "y", "1"), labels("y", "2", "x", "1"), labels("x", "2"), labels("x", "3"), labels("y", "1"), labels("k", "v")}, nearLabels...)
	for _, s := range append([]string{head, tree, deep, "receivers a/route a/", route(fine), route(" if x=\"" + strings.Repeat("\\xff", 40) + "\"")}, greatest...) {
		checkSaved(t, text(s), mustCompile(t, s), lists)
	}
}

// TestP13OneForm: whatever is written otherwise, the bytes are the same.
func TestP13OneForm(t *testing.T) {
	for _, c := range [][2]string{
		{route(" by c,a,c wait 7 if x=\"\\x41\\x0a\""), route(" by a,c wait 7 if x=\"A\\x0a\"")}, {route(" by b,b,b,b"), route(" by b")}, {route(" if x=~\"\\x61\\x7c\\x28\\x29\""), route(" if x=~\"a|()\"")}, {route(" if x!~\"\\x5c\\x22\""), route(" if x!~\"\\\\\\\"\"")}, {route(" if x=\"\\x20\" if x=\"\\x7e\" if x!=\"\\x7f\""), route(" if x=\" \" if x=\"~\" if x!=\"\\x7f\"")},
		{"receivers a/route a by d,c,b,a/ route - by -/", "receivers a/route a by a,b,c,d/ route - by -/"},
	} {
		form, _, _ := Print(text(c[0]))
		if form != text(c[1]) {
			t.Errorf("P6: %q is printed as %q, want %q", c[0], form, c[1])
		}
		if mustCompile(t, c[0]).Save() != mustCompile(t, c[1]).Save() {
			t.Errorf("P13: %q and %q have other bytes", c[0], c[1])
		}
	}
}

// TestP1SaveAndLoadAreAlone: neither is changed by calls ahead of it.
func TestP1SaveAndLoadAreAlone(t *testing.T) {
	p, q := mustCompile(t, tree), mustLoad(t, full().bytes())
	saved := p.Save()
	for _, ahead := range []string{"", none, small, saved, full().bytes(), saved[:20], strings.Repeat("x", 1<<18+1)} {
		other, e := Load(ahead)
		if e == api.OK {
			other.Save()
			other.Route(labels("x", "1"))
		}
		p.Route(labels("x", "1"))
		q.Route(labels("", ""))
		if p.Save() != saved || q.Save() != full().bytes() {
			t.Errorf("P1: behind Load(%.80q) others are saved", ahead)
		}
		checkLoaded(t, "behind others", saved, labels("x", "1", "y", "1"), "b; c")
		checkNone(t, "behind others", saved[1:])
	}
}

// TestP1LoadedHitsAreTheCallers: what a caller writes into a hit changes
// neither another hit of the same route, nor later answers, nor the bytes.
func TestP1LoadedHitsAreTheCallers(t *testing.T) {
	w := full()
	w.code = []string{instruction(1, 1, 1, 0), instruction(1, 1, 2, 0), instruction(1, 0, 3, 0), instruction(0, 0, 0, 0)}
	p := mustLoad(t, w.bytes())
	for range 3 {
		hits, e := p.Route(nil)
		if told(hits) != "b k l; b k l; a" || e != api.OK {
			t.Fatalf("P1: %q, %d", told(hits), e)
		}
		hits[0].By[0], hits[0].Receiver = "written", "written"
		if told(hits[1:]) != "b k l; a" {
			t.Errorf("P1: a hit was changed by writing into another: %q", told(hits))
		}
		for i := range hits {
			if len(hits[i].By) != cap(hits[i].By) {
				t.Errorf("P11: %q has spare room", hits[i].By)
			}
			hits[i].By = append(hits[i].By, "written")
		}
		for i := range hits[:cap(hits)] {
			hits[:cap(hits)][i] = api.Hit{Receiver: "written"}
		}
		if p.Save() != w.bytes() {
			t.Errorf("P1: the bytes were changed")
		}
	}
}

// TestP1NothingToSave: what is no program has no bytes, and no call of it panics.
func TestP1NothingToSave(t *testing.T) {
	p, _, _ := Compile("")
	q, _ := Load("")
	for _, p := range []*Program{p, q, {}} {
		if b := p.Save(); b != "" {
			t.Errorf("P1: no program is saved as %q", b)
		}
		if hits, e := p.Route(nil); len(hits) != 0 || e != api.OK {
			t.Errorf("P1: no program sends to %v, %d", hits, e)
		}
	}
}

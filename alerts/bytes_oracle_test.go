package alerts

import (
	"fmt"
	"regexp"
	"slices"
	"strings"
	"testing"

	"alerts/api"
)

// A second reading of P12: bytes are taken apart as the document's table tells
// it, and what they send is found by walking over them. Save, Load and Route
// are held against it.

var wholeName = regexp.MustCompile(`^` + nameForm + `$`)

type wantedAutomaton struct {
	classes       int
	of, ends, nxt string
}

type wantedProgram struct {
	names, constants []string
	automata         []wantedAutomaton
	tests            [][3]int
	routes           []api.Hit
	code             [][4]int
}

// cut takes bytes apart; it panics with no program where they are none.
type cut struct{ rest string }

type noProgram struct{}

func demand(ok bool) {
	if !ok {
		panic(noProgram{})
	}
}

func (c *cut) bytes(n int) string {
	demand(n <= len(c.rest))
	taken := c.rest[:n]
	c.rest = c.rest[n:]
	return taken
}

func (c *cut) number(size int) int {
	n := 0
	for _, b := range []byte(c.bytes(size)) {
		n = n<<8 | int(b)
	}
	return n
}

func (c *cut) name() string {
	name := c.bytes(c.number(1))
	demand(wholeName.MatchString(name))
	return name
}

func (c *cut) automaton() wantedAutomaton {
	states, classes := c.number(1), c.number(2)
	demand(states >= 1 && states <= 40 && classes >= 1 && classes <= 256)
	a := wantedAutomaton{classes, c.bytes(256), c.bytes(states), c.bytes(states * classes)}
	demand(int(slices.Max([]byte(a.of))) < classes && slices.Max([]byte(a.ends)) <= 1 && int(slices.Max([]byte(a.nxt))) < states)
	return a
}

func (c *cut) route() api.Hit {
	h := api.Hit{Receiver: c.name()}
	for range c.number(1) {
		h.By = append(h.By, c.name())
	}
	demand(len(h.By) <= 4 && slices.Equal(h.By, slices.Compact(slices.Sorted(slices.Values(h.By)))))
	h.Wait, h.Every, h.Repeat = c.number(3), c.number(3), c.number(3)
	demand(max(h.Wait, h.Every, h.Repeat) <= 99999)
	return h
}

func (c *cut) instruction(w *wantedProgram, at, count int) [4]int {
	in := [4]int{c.number(1), c.number(1), c.number(2), c.number(2)}
	for i, target := range in[2:] {
		if in[0] == 2 || in[0] == 1 && i == 0 {
			demand(target > at && target < count)
		} else {
			demand(target == 0)
		}
	}
	demand(in[0] <= 2 && in[1] < []int{1, len(w.routes), len(w.tests)}[in[0]])
	return in
}

// read answers nil if the bytes are no program.
func read(b string) (w *wantedProgram) {
	defer func() {
		if x := recover(); x != nil {
			_ = x.(noProgram)
			w = nil
		}
	}()
	w = &wantedProgram{}
	c := &cut{b}
	demand(len(b) <= 1<<18 && c.bytes(3) == "OB1")
	for range c.number(1) {
		w.names = append(w.names, c.name())
	}
	for range c.number(1) {
		text := c.bytes(c.number(1))
		demand(len(text) <= 40)
		w.constants = append(w.constants, text)
	}
	for range c.number(1) {
		w.automata = append(w.automata, c.automaton())
	}
	for range c.number(1) {
		test := [3]int{c.number(1), c.number(1), c.number(1)}
		demand(test[0] < len(w.names) && test[1] <= 1 && test[2] < []int{len(w.constants), len(w.automata)}[test[1]])
		w.tests = append(w.tests, test)
	}
	for range c.number(1) {
		w.routes = append(w.routes, c.route())
	}
	count := c.number(2)
	for i := range count {
		w.code = append(w.code, c.instruction(w, i, count))
	}
	demand(count > 0 && len(w.routes) <= 16 && c.rest == "")
	return w
}

func (w *wantedProgram) sends(l []api.Label) []api.Hit {
	values := map[string]string{}
	for _, label := range l {
		values[label.Name] = label.Value
	}
	hits := []api.Hit{}
	for at := 0; ; {
		in := w.code[at]
		switch {
		case in[0] == 0:
			return hits
		case in[0] == 1:
			hits = append(hits, w.routes[in[1]])
			at = in[2]
		case w.holds(w.tests[in[1]], values):
			at = in[2]
		default:
			at = in[3]
		}
	}
}

func (w *wantedProgram) holds(test [3]int, values map[string]string) bool {
	value := values[w.names[test[0]]]
	if test[1] == 0 {
		return value == w.constants[test[2]]
	}
	a, state := w.automata[test[2]], 0
	for _, b := range []byte(value) {
		state = int(a.nxt[state*a.classes+int(a.of[b])])
	}
	return a.ends[state] == 1
}

// checkBytes holds Load against the second reading, and answers whether the
// bytes are a program.
func checkBytes(t *testing.T, b string, lists [][]api.Label) bool {
	t.Helper()
	w := read(b)
	p, e := Load(b)
	if w == nil {
		if p != nil || e != api.ErrBytes {
			t.Errorf("P14: Load(%.700q) = %v, %d, want none, %d", b, p != nil, e, api.ErrBytes)
		}
		return false
	}
	if p == nil || e != api.OK {
		t.Errorf("P14: Load(%.700q) = %v, %d, want a program", b, p != nil, e)
		return true
	}
	for _, l := range lists {
		got, e := p.Route(l)
		if want := w.sends(l); fmt.Sprint(got) != fmt.Sprint(want) || e != api.OK {
			t.Errorf("P14: %.700q sends %q to %v, %d, want %v", b, l, got, e, want)
		}
	}
	if p.Save() != b {
		t.Errorf("P13: %.700q is saved as %.700q", b, p.Save())
	}
	return true
}

// checkSaved: s is a configuration, and p its program.
func checkSaved(t *testing.T, s string, p *Program, lists [][]api.Label) {
	t.Helper()
	b := p.Save()
	if !checkBytes(t, b, lists) {
		t.Errorf("P13: %q is saved as %.700q, which is no program", s, b)
		return
	}
	if again := p.Save(); again != b {
		t.Errorf("P1: %q is saved as %.700q, then as %.700q", s, b, again)
	}
	q, _ := Load(b)
	checkWays(t, s, q, lists)
	form, _, _ := Print(s)
	if form == s || len(form) > 1200 {
		return
	}
	if f, e, _ := Compile(form); e != api.OK || f.Save() != b {
		t.Errorf("P13: %q and its one form have other bytes", s)
	}
}

// shuffledBytes: a program that no configuration need be compiled into. Texts
// and automata are such that what is asked for is often met.
func shuffledBytes(r *shuffle) string {
	names, constants, automata, tests, routes := 1+r.below(4), 1+r.below(3), 1+r.below(2), 1+r.below(5), 1+r.below(3)
	w := parts{}
	for range names {
		w.names = append(w.names, word([]string{"x", "y", "z", "k"}[r.below(4)]))
	}
	for range constants {
		w.constants = append(w.constants, word(shuffledValue(r)))
	}
	for range automata {
		w.automata = append(w.automata, shuffledAutomaton(r))
	}
	for range tests {
		kind := r.below(2)
		w.tests = append(w.tests, numbers(1, r.below(names), kind, r.below([]int{constants, automata}[kind])))
	}
	for range routes {
		by := [][]string{{}, {"k"}, {"k", "l"}, {"A", "_", "a", "ab"}}[r.below(4)]
		w.routes = append(w.routes, hitBytes([]string{"a", "b", "c"}[r.below(3)], by, r.below(100000), r.below(300), r.below(70000)))
	}
	count := 1 + r.below(20)
	for i := range count {
		ahead := min(3, count-i-1)
		switch {
		case ahead == 0 || r.below(10) == 0:
			w.code = append(w.code, instruction(0, 0, 0, 0))
		case r.below(2) == 0:
			w.code = append(w.code, instruction(1, r.below(routes), i+1+r.below(ahead), 0))
		default:
			w.code = append(w.code, instruction(2, r.below(tests), i+1+r.below(ahead), i+1+r.below(ahead)))
		}
	}
	return w.bytes()
}

func shuffledAutomaton(r *shuffle) string {
	states, classes := 1+r.below(4), 1+r.below(3)
	of, ends, nxt := "", "", ""
	for range 256 {
		of += numbers(1, r.below(classes))
	}
	for range states {
		ends += numbers(1, r.below(2))
	}
	for range states * classes {
		nxt += numbers(1, r.below(states))
	}
	return numbers(1, states) + numbers(2, classes) + of + ends + nxt
}

// TestShuffledBytes: programs, and what they become where a byte is turned,
// left out or put in.
func TestShuffledBytes(t *testing.T) {
	r := &shuffle{state: 3}
	counts, broken, whole := [17]int{}, 0, 0
	for range 3000 {
		b := shuffledBytes(r)
		lists := [][]api.Label{nil, shuffledLabels(r), shuffledLabels(r), shuffledLabels(r)}
		if !checkBytes(t, b, lists) {
			t.Fatalf("%q should have been a program", b)
		}
		p, _ := Load(b)
		for _, l := range lists {
			hits, _ := p.Route(l)
			counts[min(len(hits), 16)]++
		}
		for range 12 {
			if checkBytes(t, turnedByte(r, b), lists) {
				whole++
			} else {
				broken++
			}
		}
	}
	for n := range 5 {
		if counts[n] < 100 {
			t.Errorf("only %d alerts had %d hits: %v", counts[n], n, counts)
		}
	}
	if broken < 1000 || whole < 1000 {
		t.Errorf("of the bytes that were turned %d are no program, %d are one", broken, whole)
	}
}

// turnedByte looks for its place outside the automata as often as within.
func turnedByte(r *shuffle, b string) string {
	i := r.below(len(b))
	if r.below(2) == 0 {
		i = len(b) - 1 - r.below(min(len(b), 80))
	}
	near := string([]byte{b[i] + byte(r.below(5)) - 2})
	switch r.below(5) {
	case 0:
		return b[:i] + b[i+1:]
	case 1:
		return b[:i] + near + b[i:]
	case 2:
		return b[:i] + string([]byte{byte(r.below(256))}) + b[i+1:]
	}
	return b[:i] + near + b[i+1:]
}

// TestNearBytes: of some programs every byte is turned into every other, left
// out, put in twice, and all behind it is cut off.
func TestNearBytes(t *testing.T) {
	lists := [][]api.Label{nil, labels("x", "1"), labels("x", "13", "y", "1")}
	whole := 0
	for _, b := range []string{full().bytes(), small, none, mustCompile(t, tree).Save()} {
		for i := range b {
			for c := range 256 {
				if checkBytes(t, b[:i]+string([]byte{byte(c)})+b[i+1:], lists) {
					whole++
				}
			}
			checkBytes(t, b[:i]+b[i+1:], lists)
			checkBytes(t, b[:i]+b[i:i+1]+b[i:], lists)
			if checkBytes(t, b[:i], lists) || checkBytes(t, b+strings.Repeat("\x00", 1+i%7), lists) {
				t.Errorf("P14: %.700q should have been no program at %d", b, i)
			}
		}
	}
	if whole < 1000 {
		t.Errorf("only %d are programs", whole)
	}
}

// FuzzLoad: `go test -fuzz Load ./alerts`; without, the seeds alone.
func FuzzLoad(f *testing.F) {
	for _, b := range []string{"", "OB1", none, small, full().bytes(), shuffledBytes(&shuffle{state: 9})} {
		f.Add(b, "x", "1")
	}
	f.Fuzz(func(t *testing.T, b, name, value string) {
		lists := [][]api.Label{nil}
		if len(value) <= 40 && wholeName.MatchString(name) {
			lists = append(lists, labels(name, value))
		}
		checkBytes(t, b, lists)
	})
}

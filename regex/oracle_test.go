package regex

import (
	"maps"
	"slices"
	"strconv"
	"strings"
	"testing"

	"alerts/api"
)

// A second reading of P7 and P8, as near to the document's words as can be,
// that Compile is held against.

// tree: an expression; of "byte" the set, of "then" and "or" the parts, of
// "times" one part.
type tree struct {
	kind        string
	set         [256]bool
	parts       []*tree
	least, most int
}

// grammar reads by trying all ways to cut a text.
type grammar struct {
	known map[string]*tree
}

func (g *grammar) keep(key string, t *tree) *tree {
	g.known[key] = t
	return t
}

func nest(n int) string { return string(rune('0' + n)) }

// choice: A = C or C|C|..
func (g *grammar) choice(s string, n int) *tree {
	key := "A" + nest(n) + s
	if t, ok := g.known[key]; ok {
		return t
	}
	if t := g.row(s, n); t != nil {
		return g.keep(key, t)
	}
	for i := range len(s) {
		if s[i] != '|' {
			continue
		}
		first, rest := g.row(s[:i], n), g.choice(s[i+1:], n)
		if first != nil && rest != nil {
			return g.keep(key, &tree{kind: "or", parts: []*tree{first, rest}})
		}
	}
	return g.keep(key, nil)
}

// row: C = T T .. (or nothing).
func (g *grammar) row(s string, n int) *tree {
	key := "C" + nest(n) + s
	if t, ok := g.known[key]; ok {
		return t
	}
	if s == "" {
		return g.keep(key, &tree{kind: "then"})
	}
	for i := 1; i <= len(s); i++ {
		first := g.repeated(s[:i], n)
		if first == nil {
			continue
		}
		rest := g.row(s[i:], n)
		if rest != nil {
			return g.keep(key, &tree{kind: "then", parts: []*tree{first, rest}})
		}
	}
	return g.keep(key, nil)
}

// repeated: T = ATOM, then any number of * + ? {m} {m,} {m,n}.
func (g *grammar) repeated(s string, n int) *tree {
	key := "T" + nest(n) + s
	if t, ok := g.known[key]; ok {
		return t
	}
	if t := g.atom(s, n); t != nil {
		return g.keep(key, t)
	}
	for i := 1; i < len(s); i++ {
		least, most, ok := times(s[i:])
		if !ok {
			continue
		}
		if what := g.repeated(s[:i], n); what != nil {
			return g.keep(key, &tree{kind: "times", parts: []*tree{what}, least: least, most: most})
		}
	}
	return g.keep(key, nil)
}

func digit(c byte) bool { return strings.IndexByte("0123456789", c) >= 0 }

// times: the most is -1 if there is none.
func times(s string) (int, int, bool) {
	switch s {
	case "*":
		return 0, -1, true
	case "+":
		return 1, -1, true
	case "?":
		return 0, 1, true
	}
	if len(s) < 3 || s[0] != '{' || s[len(s)-1] != '}' || !digit(s[1]) {
		return 0, 0, false
	}
	m := int(s[1] - '0')
	switch {
	case len(s) == 3:
		return m, m, true
	case len(s) == 4 && s[2] == ',':
		return m, -1, true
	case len(s) == 5 && s[2] == ',' && digit(s[3]) && s[1] <= s[3]:
		return m, int(s[3] - '0'), true
	}
	return 0, 0, false
}

func (g *grammar) atom(s string, n int) *tree {
	t := &tree{kind: "byte"}
	switch {
	case s == ".":
		for c := range t.set {
			t.set[c] = true
		}
		return t
	case len(s) == 1 && !strings.Contains("()|*+?{}[].\\", s):
		t.set[s[0]] = true
		return t
	case len(s) == 2 && s[0] == '\\':
		t.set[s[1]] = true
		return t
	case len(s) >= 2 && s[0] == '(' && s[len(s)-1] == ')' && n < 5:
		return g.choice(s[1:len(s)-1], n+1)
	case len(s) >= 3 && s[0] == '[' && s[len(s)-1] == ']':
		items, others := strings.CutPrefix(s[1:len(s)-1], "^")
		if items == "" || !t.items(items) {
			return nil
		}
		for c := range t.set {
			t.set[c] = t.set[c] != others
		}
		return t
	}
	return nil
}

// items: nothing or more; one byte is not cut off from the - behind it, since
// no item begins with that.
func (t *tree) items(s string) bool {
	if s == "" {
		return true
	}
	for i := 1; i <= min(len(s), 5); i++ {
		for j := 1; j <= i; j++ {
			first, ok := itemByte(s[:j])
			last, lastOK := first, j == i
			if j < i && s[j] == '-' {
				last, lastOK = itemByte(s[j+1 : i])
			}
			rest := tree{}
			if !ok || !lastOK || first > last || !rest.items(s[i:]) {
				continue
			}
			for c := range t.set {
				t.set[c] = rest.set[c] || c >= int(first) && c <= int(last)
			}
			return true
		}
	}
	return false
}

func itemByte(s string) (byte, bool) {
	if len(s) == 2 && s[0] == '\\' {
		return s[1], true
	}
	if len(s) == 1 && !strings.Contains("][-\\", s) {
		return s[0], true
	}
	return 0, false
}

// large: whether the expression or a part of it has more than 40 places.
func (t *tree) large() bool {
	for _, part := range t.parts {
		if part.large() {
			return true
		}
	}
	return t.places() > 40
}

func (t *tree) places() int {
	if t.kind == "byte" {
		return 1
	}
	n := 0
	for _, part := range t.parts {
		n += part.places()
	}
	switch {
	case t.kind != "times":
		return n
	case t.most < 0:
		return n * (t.least + 1)
	}
	return n * t.most
}

// ends: where the expression may end in the value, if it begins at one of these.
func (t *tree) ends(value string, from map[int]bool) map[int]bool {
	to := map[int]bool{}
	switch t.kind {
	case "byte":
		for i := range from {
			if i < len(value) && t.set[value[i]] {
				to[i+1] = true
			}
		}
	case "or":
		for _, part := range t.parts {
			maps.Copy(to, part.ends(value, from))
		}
	case "then":
		to = from
		for _, part := range t.parts {
			to = part.ends(value, to)
		}
	case "times":
		return t.timesEnds(value, from)
	}
	return to
}

// timesEnds stops early, if the last time brought no new end.
func (t *tree) timesEnds(value string, from map[int]bool) map[int]bool {
	to := map[int]bool{}
	for i := 0; t.most < 0 || i <= t.most; i++ {
		if i >= t.least {
			known := len(to)
			maps.Copy(to, from)
			if len(to) == known {
				return to
			}
		}
		from = t.parts[0].ends(value, from)
	}
	return to
}

func (t *tree) takes(value string) bool {
	return t.ends(value, map[int]bool{0: true})[len(value)]
}

// written: a normal form, and how it is written.
type written struct {
	kind  string
	set   [256]bool
	a, b  *written
	parts map[string]*written
	text  string
}

var (
	none  = &written{kind: "none", text: "0"}
	empty = &written{kind: "empty", text: "1"}
)

// setForm writes a set as its bytes at which there is a change.
func setForm(set [256]bool) *written {
	changes, in := "", false
	for c := range set {
		if set[c] != in {
			in = !in
			changes += strconv.FormatInt(int64(256+c), 16)
		}
	}
	if changes == "" {
		return none
	}
	return &written{kind: "set", set: set, text: "[" + changes + "]"}
}

func then(a, b *written) *written {
	switch {
	case a == none || b == none:
		return none
	case a == empty:
		return b
	case b == empty:
		return a
	case a.kind == "pair":
		return then(a.a, then(a.b, b))
	}
	return &written{kind: "pair", a: a, b: b, text: "(" + a.text + b.text + ")"}
}

func or(a, b *written) *written {
	parts := map[string]*written{}
	var set [256]bool
	for _, f := range []*written{a, b} {
		list := map[string]*written{f.text: f}
		if f.kind == "sum" {
			list = f.parts
		}
		for text, part := range list {
			switch part.kind {
			case "set":
				for c, in := range part.set {
					set[c] = set[c] || in
				}
			case "none":
			default:
				parts[text] = part
			}
		}
	}
	if joined := setForm(set); joined != none {
		parts[joined.text] = joined
	}
	texts := slices.Sorted(maps.Keys(parts))
	switch len(texts) {
	case 0:
		return none
	case 1:
		return parts[texts[0]]
	}
	return &written{kind: "sum", parts: parts, text: "{" + strings.Join(texts, "|") + "}"}
}

func star(a *written) *written {
	switch {
	case a == none || a == empty:
		return empty
	case a.kind == "star":
		return a
	}
	return &written{kind: "star", a: a, text: a.text + "*"}
}

func (t *tree) normal() *written {
	switch t.kind {
	case "byte":
		return setForm(t.set)
	case "or":
		return or(t.parts[0].normal(), t.parts[1].normal())
	case "then":
		f := empty
		for _, part := range slices.Backward(t.parts) {
			f = then(part.normal(), f)
		}
		return f
	}
	what, f := t.parts[0].normal(), empty
	if t.most < 0 {
		f = star(what)
	}
	for range t.most - t.least {
		f = or(then(what, f), empty)
	}
	for range t.least {
		f = then(what, f)
	}
	return f
}

func (f *written) takesEmpty() bool {
	switch f.kind {
	case "empty", "star":
		return true
	case "pair":
		return f.a.takesEmpty() && f.b.takesEmpty()
	case "sum":
		for _, part := range f.parts {
			if part.takesEmpty() {
				return true
			}
		}
	}
	return false
}

// lefts: what is left behind a byte of each form, as far as it was asked for.
type lefts map[string]*written

func (l lefts) of(f *written, c byte) *written {
	key := string([]byte{c}) + f.text
	if l[key] == nil {
		l[key] = l.find(f, c)
	}
	return l[key]
}

func (l lefts) find(f *written, c byte) *written {
	switch f.kind {
	case "set":
		if f.set[c] {
			return empty
		}
	case "pair":
		whole := then(l.of(f.a, c), f.b)
		if f.a.takesEmpty() {
			whole = or(whole, l.of(f.b, c))
		}
		return whole
	case "sum":
		whole := none
		for _, part := range f.parts {
			whole = or(whole, l.of(part, c))
		}
		return whole
	case "star":
		return then(l.of(f.a, c), f)
	}
	return none
}

// states: how many forms are left, no further than 41.
func (t *tree) states(bytes []byte) int {
	first, l := t.normal(), lefts{}
	met := map[string]bool{first.text: true}
	for todo := []*written{first}; len(todo) > 0; todo = todo[1:] {
		for _, c := range bytes {
			f := l.of(todo[0], c)
			if !met[f.text] {
				met[f.text] = true
				todo = append(todo, f)
			}
			if len(met) > 40 {
				return len(met)
			}
		}
	}
	return len(met)
}

// edges: some bytes, among them of any that the text does not tell apart one.
func edges(text string) []byte {
	bytes := []byte{0, 255}
	for i := range len(text) {
		bytes = append(bytes, text[i]-1, text[i], text[i]+1)
	}
	slices.Sort(bytes)
	return slices.Compact(bytes)
}

func everyByte() []byte {
	bytes := []byte{}
	for c := range 256 {
		bytes = append(bytes, byte(c))
	}
	return bytes
}

// seen counts what the texts came to, so that a test of nothing is noticed.
type seen struct {
	faults          [10]int
	taken, notTaken int
}

// check holds Compile against the second reading; the values are put to the
// automaton too.
func (n *seen) check(t *testing.T, text string, bytes []byte, values []string) {
	t.Helper()
	g := grammar{known: map[string]*tree{}}
	e := g.choice(text, 0)
	want, states := api.OK, 0
	switch {
	case e == nil:
		want = api.ErrRegex
	case e.large():
		want = api.ErrLarge
	default:
		states = e.states(bytes)
		if states > 40 {
			want = api.ErrStates
		}
	}
	n.faults[want]++
	a, got := Compile(text)
	if got != want {
		t.Errorf("Compile(%q): %d, want %d", text, got, want)
		return
	}
	if want != api.OK {
		return
	}
	if len(a.Accepts) != states {
		t.Errorf("P8: %q has %d states, want %d", text, len(a.Accepts), states)
	}
	checkShape(t, text, a)
	for _, value := range values {
		takes := e.takes(value)
		if takes {
			n.taken++
		} else {
			n.notTaken++
		}
		if a.Takes(value) != takes {
			t.Errorf("P7: %q takes %q: %v", text, value, !takes)
		}
	}
}

// checkShape: what Takes leans on.
func checkShape(t *testing.T, text string, a Automaton) {
	t.Helper()
	if a.Classes < 1 || a.Classes > 256 || len(a.Next) != len(a.Accepts)*a.Classes {
		t.Errorf("%q: %d classes, %d states, %d steps", text, a.Classes, len(a.Accepts), len(a.Next))
	}
	for _, class := range a.ClassOf {
		if int(class) >= a.Classes {
			t.Errorf("%q: class %d of %d", text, class, a.Classes)
		}
	}
	for _, state := range a.Next {
		if state < 0 || state >= len(a.Accepts) {
			t.Errorf("%q: state %d of %d", text, state, len(a.Accepts))
		}
	}
}

// shuffle: numbers in an order that is always the same.
type shuffle struct{ state uint32 }

func (r *shuffle) below(n int) int {
	r.state = r.state*1664525 + 1013904223
	return int(r.state>>8) % n
}

func (r *shuffle) pick(list ...string) string { return list[r.below(len(list))] }

// expression: one that is mostly in order.
func (r *shuffle) expression(depth int) string {
	if depth == 0 || r.below(5) == 0 {
		return r.pick("", ".", "a", "b", "a", "b", "c", "[ab]", "[^a]", "[^ab]", "[b-d]", "\\.", "[^\x00-\xff]", "[a-b\\-]")
	}
	first := r.expression(depth - 1)
	switch r.below(5) {
	case 0, 1:
		return first + r.expression(depth-1)
	case 2:
		return "(" + first + "|" + r.expression(depth-1) + ")"
	case 3:
		return first + "|" + r.expression(depth-1)
	}
	return "(" + first + ")" + r.pick("*", "+", "?", "{0}", "{2}", "{0,2}", "{1,3}", "{4,}", "{0,}", "{9}", "{0,9}", "{5,7}", "**", "*?", "?*", "+?", "{2}{2}")
}

func (r *shuffle) values() []string {
	values := []string{"", "a", "b", "ab", "\x00", "."}
	for range 12 {
		v := ""
		for range r.below(9) {
			v += r.pick("a", "a", "b", "b", "c", "d", ".", "-", "\xff", "\n")
		}
		values = append(values, v)
	}
	return values
}

func TestShuffledExpressions(t *testing.T) {
	n := &seen{}
	r := &shuffle{state: 1}
	for range 6000 {
		s := r.expression(1 + r.below(6))
		if r.below(10) == 0 {
			s = r.pick("(a|b)*", ".*", "([^b]?a)*") + r.expression(2) + r.pick(".", "(a|b)", "(ab|c)") + r.pick("{3}", "{4,}", "{5}", "{1,6}", "{9}")
		}
		if r.below(10) == 0 {
			i := r.below(len(s) + 1)
			s = s[:i] + r.pick("(", ")", "|", "*", "{", "}", "[", "]", "^", "-", "\\", "2", ",") + s[i:]
		}
		if len(s) <= 40 {
			n.check(t, s, edges(s), r.values())
		}
	}
	for _, e := range []api.Errno{api.OK, api.ErrRegex, api.ErrLarge, api.ErrStates} {
		if n.faults[e] < 50 {
			t.Errorf("only %d texts came to %d", n.faults[e], e)
		}
	}
	if n.taken < 1000 || n.notTaken < 1000 {
		t.Errorf("%d values were taken, %d not", n.taken, n.notTaken)
	}
}

// TestShortExpressions: all texts of these bytes, up to a length.
func TestShortExpressions(t *testing.T) {
	n := &seen{}
	for _, c := range []struct {
		bytes  string
		length int
	}{
		{"a()|*{}[]^-\\.1", 3}, {"a()|*?", 5}, {"a{,}120", 5}, {"ab[]^-\\", 5}, {"[]^-\\", 6}, {"+?*.a", 4},
	} {
		words := []string{""}
		for range c.length {
			words = longer(words, c.bytes)
			for _, w := range words {
				n.check(t, w, edges(w), []string{"", "a", "b", "aa", "ab", "aaa", "-", "]", "^", "\\", "1", ",", "|"})
			}
		}
	}
	if n.faults[api.OK] < 500 || n.faults[api.ErrRegex] < 500 || n.taken < 500 || n.notTaken < 500 {
		t.Errorf("only %v, %d, %d", n.faults, n.taken, n.notTaken)
	}
}

func longer(words []string, bytes string) []string {
	list := []string{}
	for _, w := range words {
		for i := range len(bytes) {
			list = append(list, w+bytes[i:i+1])
		}
	}
	return list
}

// FuzzCompile: `go test -fuzz Compile ./regex`; without, the seeds alone.
func FuzzCompile(f *testing.F) {
	for _, s := range []string{"", "(a|b)*abb", "\\.[^x-z]{2,3}", "a{9}{4}", "(a{9}){5}{0}", "((((((a))))))", ".*a.{0,4}", "[\\]-\\]^]+?"} {
		f.Add(s, "ab")
	}
	f.Fuzz(func(t *testing.T, s, value string) {
		if len(s) > 40 || len(value) > 40 {
			Compile(s)
			return
		}
		n := &seen{}
		n.check(t, s, edges(s), []string{value, "", s})
	})
}

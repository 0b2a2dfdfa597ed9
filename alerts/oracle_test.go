package alerts

import (
	"regexp"
	"slices"
	"strconv"
	"strings"
	"testing"

	"alerts/api"
	"alerts/regex"
)

// A second reading of P2 to P6, by the library's regular expressions, that
// Print and Compile are held against at texts which are nearly configurations.

const (
	nameForm   = `[A-Za-z_][A-Za-z0-9_]{0,7}`
	numberForm = `(?:0|[1-9][0-9]{0,4})`
	valueForm  = `"(?:[ !#-\[\]-~]|\\"|\\\\|\\x[0-9a-f]{2}){0,40}"`
)

var (
	firstForm = regexp.MustCompile(`^receivers(?: ` + nameForm + `){1,8}$`)
	routeForm = regexp.MustCompile(`^( *)route (` + nameForm + `|-)` +
		`( by (?:-|` + nameForm + `(?:,` + nameForm + `){0,3}))?` +
		`((?: wait ` + numberForm + `)?(?: every ` + numberForm + `)?(?: repeat ` + numberForm + `)?)` +
		`((?: if ` + nameForm + `(?:=|!=|=~|!~)` + valueForm + `){0,4})( continue)?$`)
	matcherForm = regexp.MustCompile(nameForm + `(?:=|!=|=~|!~)` + valueForm)
	byteForm    = regexp.MustCompile(`\\x[0-9a-f]{2}|\\.|.`)
	routesOf    = map[string][]string{}
)

// routeParts: blanks, receiver, by, times, matchers, continue; nil if the line is no route.
func routeParts(line string) []string {
	parts, ok := routesOf[line]
	if !ok {
		parts = routeForm.FindStringSubmatch(line)
		routesOf[line] = parts
	}
	if parts == nil {
		return nil
	}
	return parts[1:]
}

func wanted(s string) (string, api.Errno, int) {
	if len(s) > 1200 {
		return "", api.ErrLong, 0
	}
	lines := strings.Split(s, "\n")
	ended := lines[:len(lines)-1]
	routes := [][]string{}
	for i, line := range ended {
		if i == 0 {
			if !firstForm.MatchString(line) {
				return "", api.ErrSyntax, 1
			}
			continue
		}
		parts := routeParts(line)
		if parts == nil {
			return "", api.ErrSyntax, i + 1
		}
		routes = append(routes, parts)
	}
	if lines[len(lines)-1] != "" || len(ended) == 0 {
		return "", api.ErrSyntax, len(lines)
	}
	if line := wantedTreeFault(routes); line > 0 {
		return "", api.ErrTree, line
	}
	receivers := strings.Fields(ended[0])[1:]
	if line := wantedNameFault(receivers, routes); line > 0 {
		return "", api.ErrName, line
	}
	return wantedForm(ended[0], routes), api.OK, 0
}

func wantedTreeFault(routes [][]string) int {
	if len(routes) == 0 {
		return 2
	}
	for i, r := range routes {
		depth := len(r[0])
		switch {
		case i == 0 && (depth != 0 || r[1] == "-" || r[4] != "" || r[5] != ""),
			i > 0 && (depth == 0 || depth > 5 || depth > len(routes[i-1][0])+1),
			i == 16:
			return i + 2
		}
	}
	return 0
}

func wantedNameFault(receivers []string, routes [][]string) int {
	sorted := slices.Sorted(slices.Values(receivers))
	if len(slices.Compact(sorted)) < len(receivers) {
		return 1
	}
	for i, r := range routes {
		if r[1] != "-" && !slices.Contains(receivers, r[1]) {
			return i + 2
		}
	}
	return 0
}

func wantedForm(first string, routes [][]string) string {
	form := first + "\n"
	for _, r := range routes {
		by := r[2]
		if names, ok := strings.CutPrefix(by, " by "); ok {
			list := strings.Split(names, ",")
			slices.Sort(list)
			by = " by " + strings.Join(slices.Compact(list), ",")
		}
		form += r[0] + "route " + r[1] + by + r[3] + byteForm.ReplaceAllStringFunc(r[4], wantedByte) + r[5] + "\n"
	}
	return form
}

func wantedByte(written string) string {
	if len(written) < 4 {
		return written
	}
	n, _ := strconv.ParseUint(written[2:], 16, 8)
	switch {
	case n == '"' || n == '\\':
		return `\` + string(rune(n))
	case n >= 32 && n <= 126:
		return string(rune(n))
	}
	return written
}

// seen counts what the texts came to, so that a test of nothing is noticed.
type seen struct {
	faults      [10]int
	expressions [10]int
	changed     int
}

func (n *seen) check(t *testing.T, s string) {
	t.Helper()
	form, e, line := wanted(s)
	got, gotE, gotLine := Print(s)
	if got != form || gotE != e || gotLine != line {
		t.Errorf("Print(%q) = %q, %d, line %d, want %q, %d, line %d", s, got, gotE, gotLine, form, e, line)
	}
	n.checkCompile(t, s, e, line)
	n.faults[e]++
	if e != api.OK {
		return
	}
	if form != s {
		n.changed++
	}
	if len(form) > 1200 {
		return
	}
	again, e, _ := Print(got)
	if again != got || e != api.OK {
		t.Errorf("P6: the form %q is printed as %q, %d", got, again, e)
	}
}

// checkCompile is told the fault of Print, which is of Compile too; the faults
// of expressions come behind it.
func (n *seen) checkCompile(t *testing.T, s string, e api.Errno, line int) {
	t.Helper()
	if e == api.OK {
		e, line = wantedExpressionFault(s)
		n.expressions[e]++
	}
	p, gotE, gotLine := Compile(s)
	if (p != nil) != (e == api.OK) || gotE != e || gotLine != line {
		t.Errorf("Compile(%q) = %v, %d, line %d, want %d, line %d", s, p != nil, gotE, gotLine, e, line)
	}
	if e == api.OK {
		checkWays(t, s, p, nearLabels)
		checkSaved(t, s, p, nearLabels)
	}
}

// nearLabels: what the bases ask for, and not.
var nearLabels = [][]api.Label{
	nil, labels("x", "1"), labels("x", "q", "y", "(", "_9", "a"), labels("x", "A\n\"\\", "abcdefgh", "\"\\\x7f"), labels("x", strings.Repeat("a", 39), "y", strings.Repeat("a", 40)), labels("if", "1", "y", "f.", "x", "babc"), labels("x", "baabbb", "z", "a"), labels("a", "", "b", "", "c", "1"),
}

// wantedExpressionFault: package regex has its own second reading.
func wantedExpressionFault(s string) (api.Errno, int) {
	for i, line := range strings.Split(s, "\n") {
		for _, m := range matcherForm.FindAllString(line, -1) {
			sign := strings.IndexByte(m, '~')
			if quote := strings.IndexByte(m, '"'); sign < 0 || quote < sign {
				continue
			}
			if _, e := regex.Compile(meant(m[sign+2 : len(m)-1])); e != api.OK {
				return e, i + 1
			}
		}
	}
	return api.OK, 0
}

var bases = []string{
	"receivers a b/route a/ route b continue/",
	"receivers a b_9 C/route C by - wait 0 every 7 repeat 99999/ route - by b,a,b/  route b_9 if x=\"\"/   route a if x!=\"q\" if y=~\"(\" if _9!~\" \" continue/ route a/",
	head + " route b by d,c,b,a wait 7 if x=\"\\x41\\x0a\\x22\\x5c\" if abcdefgh=\"\\\"\\\\\\x7f\"/",
	head + " route b if x=\"" + strings.Repeat("a", 39) + "\"/  route - if y=~\"" + strings.Repeat("\\x61", 40) + "\"/",
	"receivers if wait route/route route/ route if if if=\"\"/ route wait wait 1 continue/  route -/   route -/    route -/     route if/",
	"receivers a b c d e f g/route a/" + strings.Repeat(" route g/", 15),
	head + " route b if x=~\"(a|b)*a[^c]{2}\" if y=\"(\"/ route - if z!~\"a{9}{4}bc\" if y=~\"[a-f]+\\\\.\"/  route a if x!~\".*a.{4}\"/",
	head + " route b if a=\"\" if b=\"\" if c=\"\" if d=\"\"/ route b by aa,ab wait 99999 every 99999 repeat 99999/",
}

var strays = []string{"", " ", "\n", "\"", "\\", "\\x", "\\x4", "-", ",", "=", "!", "~", "0", "1", "9", "a", "b", "f", "g", "A", "_", "\x00", "\t", "\x7f", "\x80", "\xff",
	" if x=\"1\"", " continue", " wait 5", " by a", " route b\n", "\n route -", "\n  route a by b,a"}

func TestNearConfigurations(t *testing.T) {
	n := &seen{}
	for _, base := range bases {
		s := text(base)
		n.check(t, s)
		for i := 0; i <= len(s); i++ {
			for _, stray := range strays {
				n.check(t, s[:i]+stray+s[i:])
				if i < len(s) {
					n.check(t, s[:i]+stray+s[i+1:])
				}
			}
			n.check(t, s[:i])
			n.check(t, s[i:])
		}
	}
	for _, e := range []api.Errno{api.OK, api.ErrSyntax, api.ErrTree, api.ErrName} {
		if n.faults[e] < 100 {
			t.Errorf("only %d texts came to %d", n.faults[e], e)
		}
	}
	for _, e := range []api.Errno{api.OK, api.ErrRegex, api.ErrLarge, api.ErrStates} {
		if n.expressions[e] < 10 {
			t.Errorf("only %d expressions came to %d", n.expressions[e], e)
		}
	}
	if n.changed < 100 {
		t.Errorf("only %d texts were changed by Print", n.changed)
	}
}

// shuffle: numbers in an order that is always the same.
type shuffle struct{ state uint32 }

func (r *shuffle) below(n int) int {
	r.state = r.state*1664525 + 1013904223
	return int(r.state>>8) % n
}

var pieces = []string{"route", "receivers", "a", "b", "-", "by", "a,b", "b,a,b", "wait", "every", "repeat", "0", "7", "99999", "100000", "if", "x=\"\"", "y=~\"\\x41\"", "z!=\" \"", "z!~\"\\\"\"", "continue"}

// TestShuffledConfigurations: lines of parts that are mostly in their order.
func TestShuffledConfigurations(t *testing.T) {
	n := &seen{}
	r := &shuffle{state: 1}
	for range 30000 {
		s := "receivers a b\nroute a\n"
		if r.below(4) == 0 {
			s = shuffledLine(r, "receivers", 0) + shuffledLine(r, "route", 0)
		}
		depth := 0
		for range r.below(7) {
			depth = (depth + r.below(9)) % 4
			s += shuffledLine(r, "route", depth)
		}
		n.check(t, s)
	}
	for _, e := range []api.Errno{api.OK, api.ErrSyntax, api.ErrTree, api.ErrName} {
		if n.faults[e] < 100 {
			t.Errorf("only %d texts came to %d", n.faults[e], e)
		}
	}
}

func shuffledLine(r *shuffle, kind string, depth int) string {
	words := []string{kind, []string{"a", "b", "-", "a", "b", "-", "c"}[r.below(7)]}
	if kind == "route" {
		for _, part := range []string{"by b,a", "wait 1", "every 2", "repeat 3", "if x=\"\\x7a\"", "if y!~\"1\"", "continue"} {
			if r.below(4) == 0 {
				words = append(words, part)
			}
		}
	}
	if r.below(12) == 0 {
		i := r.below(len(words))
		words = slices.Insert(words, i, pieces[r.below(len(pieces))])
	}
	if r.below(20) == 0 {
		i := r.below(len(words))
		words[i] = pieces[r.below(len(pieces))]
	}
	return strings.Repeat(" ", depth) + strings.Join(words, " ") + "\n"
}

// FuzzPrint: Compile too: `go test -fuzz Print ./alerts`; without, the seeds alone.
func FuzzPrint(f *testing.F) {
	for _, base := range bases {
		f.Add(text(base))
	}
	f.Fuzz(func(t *testing.T, s string) {
		n := &seen{}
		n.check(t, s)
	})
}

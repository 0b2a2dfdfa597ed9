package alerts

import (
	"fmt"
	"regexp"
	"slices"
	"strconv"
	"strings"
	"testing"

	"alerts/api"
	"alerts/regex"
)

// A second reading of P4 and P11: the tree is walked as the document tells it.
// It takes texts that are configurations, by the forms of oracle_test.go.

type node struct {
	hit      api.Hit
	matchers []string
	goesOn   bool
	children []*node
}

var toldForm = regexp.MustCompile(`(wait|every|repeat) ([0-9]+)`)

// rootOf answers the root with all that is below it.
func rootOf(s string) *node {
	path := []*node{{hit: api.Hit{Wait: 30, Every: 300, Repeat: 14400}}}
	for _, line := range strings.Split(s, "\n")[1:] {
		parts := routeParts(line)
		if parts == nil {
			continue
		}
		path = path[:len(parts[0])+1]
		parent := path[len(path)-1]
		child := nodeBelow(parent, parts)
		parent.children = append(parent.children, child)
		path = append(path, child)
	}
	return path[0].children[0]
}

func nodeBelow(parent *node, parts []string) *node {
	n := &node{hit: parent.hit, goesOn: parts[5] != ""}
	if parts[1] != "-" {
		n.hit.Receiver = parts[1]
	}
	if parts[2] == " by -" {
		n.hit.By = nil
	} else if parts[2] != "" {
		n.hit.By = strings.Split(strings.TrimPrefix(parts[2], " by "), ",")
		slices.Sort(n.hit.By)
		n.hit.By = slices.Compact(n.hit.By)
	}
	for _, time := range toldForm.FindAllStringSubmatch(parts[3], -1) {
		number, _ := strconv.Atoi(time[2])
		*map[string]*int{"wait": &n.hit.Wait, "every": &n.hit.Every, "repeat": &n.hit.Repeat}[time[1]] = number
	}
	n.matchers = matcherForm.FindAllString(parts[4], -1)
	return n
}

func (n *node) send(values map[string]string) []api.Hit {
	for _, m := range n.matchers {
		if !wantedToHold(m, values) {
			return nil
		}
	}
	hits := []api.Hit{}
	for _, child := range n.children {
		sent := child.send(values)
		hits = append(hits, sent...)
		if len(sent) > 0 && !child.goesOn {
			break
		}
	}
	if len(hits) == 0 {
		hits = append(hits, n.hit)
	}
	return hits
}

var matcherParts = regexp.MustCompile(`(?s)^([^=!]*)(=~|!~|=|!=)"(.*)"$`)

func wantedToHold(matcher string, values map[string]string) bool {
	parts := matcherParts.FindStringSubmatch(matcher)
	value, asked := values[parts[1]], meant(parts[3])
	switch parts[2] {
	case "=":
		return value == asked
	case "!=":
		return value != asked
	case "=~":
		return wantedTaken(asked, value)
	}
	return !wantedTaken(asked, value)
}

// meant: what the bytes in the quotes of a value stand for.
func meant(written string) string {
	value := ""
	for _, b := range byteForm.FindAllString(written, -1) {
		c, _, _, _ := strconv.UnquoteChar(b, '"')
		value += string([]byte{byte(c)})
	}
	return value
}

// Expressions that the library reads as the document does, at values of ASCII.
var common = []string{"", "1", "1|2", "[13]", "[^1]", "(a|b)*", "a+b?", "..", ".*", "(ab)*|1", "(1|a)?b{0,2}", "a{2,}|[1-3]"}

// wantedTaken: package regex has its own second reading for other expressions.
func wantedTaken(expression, value string) bool {
	if slices.Contains(common, expression) {
		return regexp.MustCompile(`^(?s:` + expression + `)$`).MatchString(value)
	}
	a, e := regex.Compile(expression)
	return e == api.OK && a.Takes(value)
}

// checkWays holds Route against the tree; it answers how many hits there were.
func checkWays(t *testing.T, s string, p *Program, lists [][]api.Label) []int {
	t.Helper()
	counts := []int{}
	root := rootOf(s)
	for _, l := range lists {
		values := map[string]string{}
		for _, label := range l {
			values[label.Name] = label.Value
		}
		want := root.send(values)
		got, e := p.Route(l)
		if told(got) != told(want) || e != api.OK {
			t.Errorf("P11: %q sends %q to %q, %d, want %q", s, l, told(got), e, told(want))
		}
		counts = append(counts, len(got))
	}
	return counts
}

// shuffledTree: labels x, y, z, that all have values which are often asked for.
func shuffledTree(r *shuffle) string {
	s := "receivers a b c\nroute a" + shuffledRest(r, 0) + "\n"
	depth, often := 0, 1+r.below(4)
	for range r.below(16) {
		depth = 1 + r.below(min(depth+1, 5))
		line := strings.Repeat(" ", depth) + "route " + []string{"a", "b", "c", "-"}[r.below(4)] + shuffledRest(r, r.below(often))
		if r.below(2) == 0 {
			line += " continue"
		}
		if len(s)+len(line) < 1200 {
			s += line + "\n"
		}
	}
	return s
}

func shuffledRest(r *shuffle, matchers int) string {
	rest := ""
	if r.below(4) == 0 {
		rest += " by " + []string{"-", "k", "l,k", "m,k,m"}[r.below(4)]
	}
	for _, time := range []string{" wait ", " every ", " repeat "} {
		if r.below(5) == 0 {
			rest += time + fmt.Sprint(r.below(100))
		}
	}
	for range matchers {
		rest += " if " + []string{"x", "y", "z"}[r.below(3)]
		if r.below(2) == 0 {
			rest += []string{"=", "!="}[r.below(2)] + `"` + shuffledValue(r) + `"`
		} else {
			rest += []string{"=~", "!~"}[r.below(2)] + `"` + common[r.below(len(common))] + `"`
		}
	}
	return rest
}

func shuffledValue(r *shuffle) string {
	return []string{"", "1", "2", "3", "a", "ab", "abab", "bb"}[r.below(8)]
}

func shuffledLabels(r *shuffle) []api.Label {
	l := []api.Label{}
	names := []string{"x", "y", "z", "k"}
	for r.below(5) > 0 && len(names) > 0 {
		i := r.below(len(names))
		l = append(l, api.Label{Name: names[i], Value: shuffledValue(r)})
		names = slices.Delete(names, i, i+1)
	}
	return l
}

func TestShuffledTrees(t *testing.T) {
	r := &shuffle{state: 7}
	counts := [17]int{}
	for range 4000 {
		s := shuffledTree(r)
		p, e, line := Compile(s)
		if e != api.OK {
			t.Fatalf("Compile(%q): %d, line %d", s, e, line)
		}
		form, _, _ := Print(s)
		q, e, line := Compile(form)
		if e != api.OK {
			t.Fatalf("Compile(%q): %d, line %d", form, e, line)
		}
		lists := [][]api.Label{}
		for range 12 {
			lists = append(lists, shuffledLabels(r))
		}
		for _, n := range checkWays(t, s, p, lists) {
			counts[n]++
		}
		checkWays(t, s, q, lists)
		checkSaved(t, s, p, lists)
	}
	for n := 1; n <= 5; n++ {
		if counts[n] < 100 {
			t.Errorf("only %d alerts had %d hits: %v", counts[n], n, counts)
		}
	}
}

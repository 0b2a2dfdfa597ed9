package alerts

import (
	"fmt"
	"reflect"
	"strings"
	"testing"

	"alerts/api"
)

// labels: name, value, name, value ..
func labels(l ...string) []api.Label {
	out := []api.Label{}
	for i := 0; i+1 < len(l); i += 2 {
		out = append(out, api.Label{Name: l[i], Value: l[i+1]})
	}
	return out
}

// told: hits as a text; the times that the root has if none is told are left out.
func told(hits []api.Hit) string {
	all := []string{}
	for _, h := range hits {
		times := fmt.Sprintf(" %d %d %d", h.Wait, h.Every, h.Repeat)
		all = append(all, strings.Join(append([]string{h.Receiver}, h.By...), " ")+strings.TrimSuffix(times, " 30 300 14400"))
	}
	return strings.Join(all, "; ")
}

func mustCompile(t *testing.T, s string) *Program {
	t.Helper()
	p, e, line := Compile(text(s))
	if e != api.OK || p == nil {
		t.Fatalf("Compile(%q): %d, line %d", s, e, line)
	}
	return p
}

func checkRouted(t *testing.T, promise, s string, l []api.Label, want string) {
	t.Helper()
	hits, e := mustCompile(t, s).Route(l)
	if told(hits) != want || e != api.OK {
		t.Errorf("%s: %q sends %q to %q, %d, want %q", promise, s, l, told(hits), e, want)
	}
}

const tree = "receivers r a b c d/route r/ route a if x=\"1\"/  route b if y=\"1\" continue/  route c if y=~\"1|2\"/ route d if x!=\"\" continue/ route - wait 1 if x=~\"[13]\"/"

const deep = "receivers r a/route r by l wait 1/ route - wait 2/  route a by - every 3/   route - repeat 4 if k=\"\"/"

func TestP11Examples(t *testing.T) {
	for _, c := range []struct {
		s    string
		l    []api.Label
		want string
	}{
		{tree, nil, "r"}, {tree, labels("x", "1"), "a"}, {tree, labels("x", "1", "y", "1"), "b; c"}, {tree, labels("y", "2", "x", "1"), "c"}, {tree, labels("x", "2"), "d"}, {tree, labels("x", "3"), "d; r 1 300 14400"}, {tree, labels("y", "1"), "r"},
		{deep, nil, "a 2 3 4"}, {deep, labels("k", "v"), "a 2 3 14400"},
	} {
		checkRouted(t, "P11", c.s, c.l, c.want)
	}
}

func TestP11Matchers(t *testing.T) {
	for _, c := range []struct {
		matchers string
		l        []api.Label
		holds    bool
	}{
		{`if x="1"`, labels("x", "1"), true}, {`if x="1"`, labels("x", "2"), false}, {`if x="1"`, labels("x", "11"), false}, {`if x="11"`, labels("x", "1"), false}, {`if x="1"`, labels("y", "1"), false}, {`if x="1"`, labels("X", "1"), false}, {`if x="1"`, labels("xx", "1"), false}, {`if x="1"`, labels("x", ""), false}, {`if x="1"`, nil, false}, {`if x="a"`, labels("x", "A"), false},
		{`if x!="1"`, labels("x", "1"), false}, {`if x!="1"`, labels("x", "2"), true}, {`if x!="1"`, labels("x", ""), true}, {`if x!="1"`, labels("y", "1"), true}, {`if x!="1"`, nil, true},
		{`if x=""`, nil, true}, {`if x=""`, labels("x", ""), true}, {`if x=""`, labels("x", "\x00"), false}, {`if x=""`, labels("y", "1"), true}, {`if x!=""`, nil, false}, {`if x!=""`, labels("x", ""), false}, {`if x!=""`, labels("x", " "), true},
		{`if x=~"1|2"`, labels("x", "1"), true}, {`if x=~"1|2"`, labels("x", "2"), true}, {`if x=~"1|2"`, labels("x", "12"), false}, {`if x=~"1|2"`, nil, false}, {`if x=~"1*"`, nil, true}, {`if x=~""`, nil, true}, {`if x=~""`, labels("x", ""), true}, {`if x=~""`, labels("x", "1"), false}, {`if x=~"a"`, labels("x", "ba"), false}, {`if x=~"a"`, labels("x", "ab"), false},
		{`if x!~"1|2"`, labels("x", "1"), false}, {`if x!~"1|2"`, labels("x", "3"), true}, {`if x!~"1|2"`, nil, true}, {`if x!~"1*"`, nil, false}, {`if x!~""`, nil, false}, {`if x!~""`, labels("x", "1"), true},
		{`if x="(a|b)*"`, labels("x", "a"), false}, {`if x="(a|b)*"`, labels("x", "(a|b)*"), true}, {`if x=~"(a|b)*abb"`, labels("x", "ababb"), true}, {`if x=~"(a|b)*abb"`, labels("x", "abba"), false}, {`if x=~"\\.[^x-z]{2,3}"`, labels("x", ".ab"), true}, {`if x=~"\\.[^x-z]{2,3}"`, labels("x", "xab"), false}, {`if x=~".."`, labels("x", "\n\xff"), true}, {`if x=~".."`, labels("x", "\xc3\xa4"), true}, {`if x=~"."`, labels("x", "\xc3\xa4"), false},
		{`if x="\x00\x0a\xff"`, labels("x", "\x00\n\xff"), true}, {`if x="\"\\"`, labels("x", `"\`), true}, {`if x="\x22\x5c"`, labels("x", `"\`), true}, {`if x=~"\x00\xff+"`, labels("x", "\x00\xff\xff"), true}, {`if x=~"\x00\xff+"`, labels("x", "\x00\xfe"), false},
		{`if x="1" if y="2"`, labels("x", "1", "y", "2"), true}, {`if x="1" if y="2"`, labels("x", "1"), false}, {`if x="1" if y="2"`, labels("y", "2"), false}, {`if x="1" if y="2"`, labels("x", "2", "y", "1"), false}, {`if x="1" if x="2"`, labels("x", "1"), false}, {`if x="1" if x!="1"`, labels("x", "1"), false}, {`if x="1" if x!="1"`, nil, false}, {`if x=~"1" if x!~"1"`, labels("x", "1"), false}, {`if x="1" if x=~"1"`, labels("x", "1"), true}, {`if x="1" if x="1"`, labels("x", "1"), true}, {`if x="1" if y="1"`, labels("x", "1"), false}, {`if x=~"1" if y=~"1"`, labels("x", "1"), false},
		{`if a!="1" if b!~"2" if c="3" if d=~"4"`, labels("d", "4", "c", "3"), true}, {`if a!="1" if b!~"2" if c="3" if d=~"4"`, labels("c", "3"), false}, {`if a!="1" if b!~"2" if c="3" if d=~"4"`, labels("d", "4", "c", "3", "b", "2"), false}, {`if a!="1" if b!~"2" if c="3" if d=~"4"`, labels("d", "4", "c", "3", "a", "1"), false},
		{`if x="` + strings.Repeat("ab", 20) + `"`, labels("x", strings.Repeat("ab", 20)), true}, {`if x="` + strings.Repeat("ab", 20) + `"`, labels("x", strings.Repeat("ab", 19)+"a"), false}, {`if x=~"(ab)*"`, labels("x", strings.Repeat("ab", 20)), true}, {`if x=~"(ab)*"`, labels("x", strings.Repeat("ab", 19)+"aa"), false},
	} {
		want := "a"
		if c.holds {
			want = "b"
		}
		checkRouted(t, "P11", route(" "+c.matchers), c.l, want)
	}
}

// TestP11Tree: which children send, and when the route itself does.
func TestP11Tree(t *testing.T) {
	const first = "receivers r a b c d/route r/"
	for _, c := range []struct {
		s    string
		want string
	}{
		{first, "r"}, {first + " route a/", "a"}, {first + " route a/ route b/", "a"}, {first + " route a continue/ route b/", "a; b"}, {first + " route a continue/", "a"}, {first + " route a continue/ route b continue/", "a; b"}, {first + " route a continue/ route b/ route c/", "a; b"}, {first + " route a continue/ route b continue/ route c/ route d continue/", "a; b; c"},
		{first + " route a if x=\"2\"/", "r"}, {first + " route a if x=\"2\" continue/ route b if x=\"2\"/", "r"}, {first + " route a if x=\"2\"/ route b/ route c/", "b"}, {first + " route a continue/ route b if x=\"2\"/ route c/ route d/", "a; c"}, {first + " route a continue/ route b if x=\"2\"/", "a"}, {first + " route a/ route b if x=\"1\"/", "a"}, {first + " route a if x=\"2\" continue/ route b if x=\"1\"/ route c/", "b"},
		{first + " route a/  route b if x=\"2\"/ route c/", "a"}, {first + " route a continue/  route b if x=\"2\"/ route c/", "a; c"}, {first + " route a if x=\"2\"/  route b/ route c/", "c"}, {first + " route a/  route b continue/  route c if x=\"2\"/ route d/", "b"}, {first + " route a continue/  route b/  route c/ route d/", "b; d"},
		{first + " route a/  route b continue/ route c/", "b"}, {first + " route a/  route b/   route c continue/  route d/", "c"}, {first + " route a continue/  route b continue/   route c/    route d continue/     route r continue/  route c/ route d/", "r; c; d"}, {first + " route a/  route b/   route c/    route d/     route r if x=\"2\"/", "d"}, {first + " route a/  route b/   route c/    route d if x=\"2\"/     route r/", "c"},
		{first + " route a if x=\"2\"/ route a if x=\"1\" continue/  route b if x=\"2\"/  route c if y=\"\" continue/  route d if x=\"1\"/ route - continue/ route b if x!=\"1\"/", "c; d; r"}, {first + " route a continue/ route a continue/ route a/", "a; a; a"},
		{first + strings.Repeat(" route a continue/", 15), strings.Repeat("a; ", 14) + "a"}, {first + strings.Repeat(" route a if x=\"2\"/", 14) + " route b/", "b"}, {first + strings.Repeat(" route a/  route b if x=\"2\" continue/", 7) + " route c/", "a"},
	} {
		checkRouted(t, "P11", c.s, labels("x", "1"), c.want)
	}
}

// TestP4Inherited: what a route does not tell, seen in its hit.
func TestP4Inherited(t *testing.T) {
	for _, c := range []struct{ s, want string }{
		{"receivers r/route r/", "r"}, {"receivers r/route r by -/", "r"}, {"receivers r/route r by l,k,l,K wait 1 every 2 repeat 3/", "r K k l 1 2 3"}, {"receivers r/route r wait 0/", "r 0 300 14400"}, {"receivers r/route r every 0/", "r 30 0 14400"}, {"receivers r/route r repeat 99999/", "r 30 300 99999"}, {"receivers r/route r by aa,a,ab,B/", "r B a aa ab"},
		{"receivers r a/route r by l wait 1 every 2 repeat 3/ route a/", "a l 1 2 3"}, {"receivers r a/route r by l wait 1 every 2 repeat 3/ route -/", "r l 1 2 3"}, {"receivers r a/route r by l wait 1 every 2 repeat 3/ route - by -/", "r 1 2 3"}, {"receivers r a/route r by l wait 1 every 2 repeat 3/ route - by m,k/", "r k m 1 2 3"}, {"receivers r a/route r by l wait 1 every 2 repeat 3/ route - wait 30/", "r l 30 2 3"}, {"receivers r a/route r by l wait 1 every 2 repeat 3/ route - every 0/", "r l 1 0 3"}, {"receivers r a/route r by l wait 1 every 2 repeat 3/ route - repeat 0/", "r l 1 2 0"},
		{"receivers r a/route r by l/ route a by -/  route - wait 5/   route r every 6/    route - repeat 7/     route - by z/", "r z 5 6 7"}, {"receivers r a/route r/ route a wait 1 if x=\"2\"/ route -/", "r"}, {"receivers r a/route r by l/ route a wait 1/  route - by m every 1 if x=\"2\"/  route -/", "a l 1 300 14400"}, {"receivers r a/route r by l/ route a wait 1 continue/ route - by m continue/  route -/ route - repeat 2/", "a l 1 300 14400; r m; r l 30 300 2"},
	} {
		checkRouted(t, "P4", c.s, nil, c.want)
	}
}

// others: so many labels that no configuration here asks for.
func others(n int) []api.Label {
	l := []api.Label{}
	for i := range n {
		l = append(l, api.Label{Name: fmt.Sprint("k", i), Value: "v"})
	}
	return l
}

func TestP10WrongLabels(t *testing.T) {
	long := strings.Repeat("v", 41)
	wrong := [][]api.Label{
		labels("", "x"), labels("", ""), labels("9", "x"), labels("a-b", ""), labels("-", "x"), labels(" x", "1"), labels("x ", "1"), labels("x\x00", "1"), labels("x\n", "1"), labels("\xe4", "1"), labels("abcdefghi", ""), labels("a,b", "1"),
		labels("x", "1", "x", "1"), labels("x", "1", "x", "2"), labels("x", "", "x", ""), labels("x", "1", "y", "1", "x", "2"), labels("y", "1", "x", "1", "x", "2"), labels("q", "1", "q", "1"),
		labels("x", long), labels("q", long), labels("x", "1", "y", long), labels("x", strings.Repeat("\x00", 1000)), labels("x", "1", "", "1"), labels("x", "1", "9", "1"),
		others(13), others(100), append(others(12), labels("x", "1")...), append(others(11), labels("k0", "v")...),
	}
	for _, s := range []string{head, tree, deep} {
		p := mustCompile(t, s)
		for _, l := range wrong {
			hits, e := p.Route(l)
			if hits != nil || e != api.ErrLabels {
				t.Errorf("P10: Route(%.80q) = %v, %d", l, hits, e)
			}
		}
	}
}

func TestP10GreatestLabels(t *testing.T) {
	long := strings.Repeat("\xff", 40)
	for _, c := range []struct {
		l    []api.Label
		want string
	}{
		{nil, "r"}, {labels(), "r"}, {labels("abcdefgh", "x"), "r"}, {labels("_", "\x00\xff"), "r"}, {labels("Z_9", ""), "r"}, {labels("z", long), "r"}, {labels("x", long), "d"}, {others(12), "r"}, {append(others(11), labels("x", "1")...), "a"}, {append(labels("x", "3"), others(11)...), "d; r 1 300 14400"}, {labels("x", "1", "X", "2"), "a"}, {labels("x", "", "y", ""), "r"},
	} {
		checkRouted(t, "P10", tree, c.l, c.want)
	}
	checkRouted(t, "P10", "receivers a b/route a/ route b if abcdefgh=\"1\"/", labels("abcdefg", "2", "abcdefgh", "1"), "b")
}

// TestP10Order: no order of the labels changes where an alert goes.
func TestP10Order(t *testing.T) {
	p := mustCompile(t, tree)
	all := labels("x", "1", "y", "1", "z", "q", "r", "")
	want, _ := p.Route(all)
	for i := range all {
		for j := range all {
			turned := append([]api.Label{}, all...)
			turned[i], turned[j] = turned[j], turned[i]
			got, e := p.Route(turned)
			if !reflect.DeepEqual(got, want) || told(got) != "b; c" || e != api.OK {
				t.Errorf("P10: Route(%q) = %v, %d, want %v", turned, got, e, want)
			}
		}
	}
}

// TestP1HitsAreTheCallers: neither a later answer nor another hit of the same
// one is changed by what a caller writes into a hit, or into spare room.
func TestP1HitsAreTheCallers(t *testing.T) {
	p := mustCompile(t, "receivers r a/route r by l,k/ route - continue/ route a continue/  route - by -/  route -/ route r/")
	const want = "r k l; a; r k l"
	for range 3 {
		hits, _ := p.Route(nil)
		if told(hits) != want {
			t.Fatalf("P1: %q, want %q", told(hits), want)
		}
		for i, h := range hits {
			if len(h.By) != cap(h.By) {
				t.Errorf("P11: %q has spare room", h.By)
			}
			for j := range h.By {
				h.By[j] = "written"
			}
			hits[i].Receiver, hits[i].Wait = "written", 7
			if i+1 < len(hits) && told(hits[i+1:]) != strings.Join(strings.Split(want, "; ")[i+1:], "; ") {
				t.Errorf("P1: a hit was changed by writing into another: %q", told(hits))
			}
		}
		for i := range hits[:cap(hits)] {
			hits[:cap(hits)][i] = api.Hit{Receiver: "written", By: []string{"written"}}
		}
	}
}

// TestP1LabelsAreRead: what is handed in stays, and what stands behind it.
func TestP1LabelsAreRead(t *testing.T) {
	p := mustCompile(t, tree)
	room := labels("y", "1", "x", "1", "z", "q", "behind", "1", "behind", "2")
	for n := 0; n <= len(room); n++ {
		p.Route(room[:n])
		if !reflect.DeepEqual(room, labels("y", "1", "x", "1", "z", "q", "behind", "1", "behind", "2")) {
			t.Fatalf("P1: the labels became %q", room)
		}
	}
}

// TestP1RouteIsAlone: neither calls ahead nor other programs change an answer.
func TestP1RouteIsAlone(t *testing.T) {
	p, other := mustCompile(t, tree), mustCompile(t, deep)
	lists := [][]api.Label{nil, labels("x", "1"), labels("x", "1", "y", "1"), labels("x", "3"), labels("", ""), others(13)}
	want := []string{"r", "a", "b; c", "d; r 1 300 14400", "", ""}
	for i, l := range lists {
		for j, ahead := range lists {
			p.Route(ahead)
			other.Route(ahead)
			Compile(text(head))
			got, e := p.Route(l)
			if told(got) != want[i] || (e == api.ErrLabels) != (i >= 4) {
				t.Errorf("P1: Route(%q) behind %d = %q, %d, want %q", l, j, told(got), e, want[i])
			}
		}
	}
}

// TestP1NoProgram: with a fault there is none, and no call of it panics.
func TestP1NoProgram(t *testing.T) {
	p, _, _ := Compile("")
	for _, p := range []*Program{p, {}} {
		hits, e := p.Route(labels("x", "1"))
		if len(hits) != 0 || e != api.OK {
			t.Errorf("P1: no program sends to %v, %d", hits, e)
		}
		hits, e = p.Route(labels("", ""))
		if hits != nil || e != api.ErrLabels {
			t.Errorf("P10: no program sends to %v, %d", hits, e)
		}
	}
}

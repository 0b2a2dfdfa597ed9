package alerts

import (
	"strings"
	"testing"

	"alerts/api"
)

// text: a slash is a line's end.
func text(s string) string { return strings.ReplaceAll(s, "/", "\n") }

const head = "receivers a b/route a/"

// same: what is wanted is what was handed in.
const same = "same"

func checkPrinted(t *testing.T, promise, s, want string) {
	t.Helper()
	if want == same {
		want = s
	}
	got, e, line := Print(text(s))
	if got != text(want) || e != api.OK || line != 0 {
		t.Errorf("%s: Print(%q) = %q, %d, line %d, want %q", promise, s, got, e, line, text(want))
	}
}

func checkFault(t *testing.T, promise, s string, e api.Errno, line int) {
	t.Helper()
	got, gotE, gotLine := Print(s)
	if got != "" || gotE != e || gotLine != line {
		t.Errorf("%s: Print(%.60q) = %.60q, %d, line %d, want %d, line %d", promise, s, got, gotE, gotLine, e, line)
	}
}

// route: a route of depth 1 with this behind its receiver.
func route(rest string) string { return head + " route b" + rest + "/" }

func TestP2Lines(t *testing.T) {
	for _, s := range []string{
		"receivers a/route a/",
		"receivers a b c d e f g h/route h/",
		"receivers abcdefgh A_9 _/route abcdefgh/ route A_9/ route _/",
		"receivers route if by/route by by by wait 1/ route if if if=\"if\"/ route route continue/",
		"receivers continue a/route continue/ route continue continue/ route - continue/",
		"receivers wait receiver/route receiver/ route wait/",
		route(" by -"), route(" by a"), route(" by a,b,c,d"), route(" by wait wait 1"),
		route(" wait 0"), route(" every 0"), route(" repeat 0"),
		route(" wait 99999 every 99999 repeat 99999"), route(" wait 10 repeat 5"), route(" every 7"),
		route(" if x=\"\" if x=\"\" if x=\"\" if x=\"\" continue"), route(" by x every 5 if x=\"\""),
	} {
		checkPrinted(t, "P2", s, same)
	}
}

func TestP2WrongFirstLines(t *testing.T) {
	for _, first := range []string{
		"", " ", "receivers", "receivers ", "receivers -", "receivers a b c d e f g h i", "receivers a  b", "receivers a ",
		" receivers a", "receivers\ta", "receivers a\r", "receivers a,b", "receiversa", "receivers 9", "receivers abcdefghi",
		"receivers a abcdefghi", "receivers a\x00", "receiver a", "RECEIVERS a", "route a", "receivers \"a\"",
	} {
		checkFault(t, "P2", first+"\nroute a\n", api.ErrSyntax, 1)
	}
}

func TestP2WrongRoutes(t *testing.T) {
	for _, line := range []string{
		"", " ", "x", "route", " route", " route ", " routeb", " route  b", " Route b", "\troute b", " route\tb", " route b\r", " route b ",
		" route --", " route -b", " route b-", " route 9", " route abcdefghi", " route b x", " route \"b\"", " receivers b",
		" route b by", " route b by ", " route b by ,", " route b by a,", " route b by ,a", " route b by a,,b", " route b by a, b", " route b by a b",
		" route b by -,a", " route b by a,-", " route b by --", " route b by a,b,c,d,e", " route b by a,a,a,a,a", " route b by 9", " route b by abcdefghi", " route b by a by a", " route b  by a",
		" route b wait", " route b wait ", " route b wait -", " route b wait -1", " route b wait +1", " route b wait 00", " route b wait 01", " route b wait 100000", " route b wait 999999",
		" route b wait 18446744073709551617", " route b wait 1a", " route b wait a", " route b wait 0x1", " route b wait 1 ", " route b wait  1", " route b wait1", " route b wait 1 wait 2",
		" route b every 100000", " route b every 01", " route b every", " route b repeat 100000", " route b repeat 01", " route b repeat",
		" route b wait 1 by a", " route b every 1 wait 1", " route b repeat 1 every 1", " route b repeat 1 wait 1", " route b if x=\"\" by a", " route b if x=\"\" wait 1", " route b continue wait 1",
		" route b if", " route b if ", " route b if x", " route b if x=\"\" x=\"\"", " route b if  x=\"\"", " route b if x=\"\"  continue", " route b continue if x=\"\"", " route b continue continue",
		" route b continu", " route b continuee", " route b Continue", " route b continue ", " route b  continue",
		" route b if x=\"\" if x=\"\" if x=\"\" if x=\"\" if x=\"\"",
	} {
		checkFault(t, "P2", text(head)+line+"\n", api.ErrSyntax, 3)
		if line != "" {
			checkFault(t, "P2", text(head)+line, api.ErrSyntax, 3)
		}
	}
}

// sized: a configuration of n bytes (from 397 on).
func sized(n int) string {
	s := head
	rest := n - len(head) - 15*len(" route b if x=\"\" if y=\"\"/")
	for range 15 {
		one := min(rest, 40)
		two := min(rest-one, 40)
		rest -= one + two
		s += " route b if x=\"" + strings.Repeat("v", one) + "\" if y=\"" + strings.Repeat("v", two) + "\"/"
	}
	return s
}

func TestP2Text(t *testing.T) {
	for _, n := range []int{397, 1199, 1200} {
		s := sized(n)
		if len(s) != n {
			t.Fatalf("the text has %d bytes, not %d", len(s), n)
		}
		checkPrinted(t, "P2", s, same)
	}
	for _, n := range []int{1201, 1202, 1500} {
		checkFault(t, "P5", text(sized(n)), api.ErrLong, 0)
	}
}

func TestP3Values(t *testing.T) {
	for _, c := range []struct{ written, printed string }{
		{``, same}, {` `, same}, {`  a  b `, same}, {`~`, same}, {`if x=`, same}, {`'`, same}, {`\"`, same}, {`\\`, same}, {`\\x41`, same}, {`\"\"`, same}, {`\\\"`, same},
		{`\x00`, same}, {`\x0a`, same}, {`\x1f`, same}, {`\x7f`, same}, {`\x80`, same}, {`\xff`, same}, {`\xfa0`, same},
		{`\x20`, ` `}, {`\x7e`, `~`}, {`\x22`, `\"`}, {`\x5c`, `\\`}, {`\x5cx41`, `\\x41`}, {`\x411`, `A1`}, {`\x6a\x4b`, `jK`}, {`\x30`, `0`}, {`\x39`, `9`},
		{strings.Repeat("a", 40), same}, {strings.Repeat(`\"`, 40), same}, {strings.Repeat(`\\`, 40), same}, {strings.Repeat(`\xff`, 40), same},
		{strings.Repeat(`\x61`, 40), strings.Repeat("a", 40)},
	} {
		for _, sign := range []string{"=", "!=", "=~", "!~"} {
			want := same
			if c.printed != same {
				want = route(" if abcdefgh" + sign + "\"" + c.printed + "\"")
			}
			checkPrinted(t, "P3, P6", route(" if abcdefgh"+sign+"\""+c.written+"\""), want)
		}
	}
}

func TestP3WrongMatchers(t *testing.T) {
	for _, matcher := range []string{
		`x`, `x=`, `x="`, `x=""a`, `x="""`, `x="a`, `x=a`, `x='a'`, `x="\"`, `x="\`, `x="\a"`, `x="\n"`, `x="\0"`, `x="\x"`, `x="\x4"`, `x="\x4g"`, `x="\xg4"`, `x="\xAB"`, `x="\xaB"`, `x="\xBa"`,
		`x="\X41"`, `x="\x 1"`, `x="\x4`, `x="\x`, `x="` + "\t" + `"`, `x="` + "\x00" + `"`, `x="` + "\x1f" + `"`, `x="` + "\x7f" + `"`, `x="` + "\x80" + `"`, `x="` + "\xe4" + `"`, `x="ä"`,
		` x=""`, `x =""`, `x= ""`, `x==""`, `x=~~""`, `x=!""`, `x~""`, `x~=""`, `x!""`, `x!!""`, `x""`, `x<""`, `=""`, `9=""`, `-=""`, `abcdefghi=""`, `x.y=""`, `"x"=""`,
		`x="` + strings.Repeat("a", 41) + `"`, `x="` + strings.Repeat(`\x61`, 41) + `"`, `x="` + strings.Repeat(`\"`, 41) + `"`, `x="` + strings.Repeat(`\\`, 41) + `"`,
	} {
		checkFault(t, "P3", text(head)+" route b if "+matcher+"\n", api.ErrSyntax, 3)
	}
	checkFault(t, "P3", text(head)+" route b if x=\"a\nb\"\n", api.ErrSyntax, 3)
}

func TestP4Trees(t *testing.T) {
	for _, s := range []string{
		head + " route b/  route b/   route b/    route b/     route b/",
		head + " route b/  route b/   route b/    route b/     route b/ route b/  route -/  route a/",
		head + strings.Repeat(" route b/", 15),
		head + strings.Repeat(" route b/  route -/   route a/    route b/     route -/", 3),
		"receivers a b/route a by x wait 1 every 2 repeat 3/",
	} {
		checkPrinted(t, "P4", s, same)
	}
	for _, c := range []struct {
		s    string
		line int
	}{
		{"receivers a/", 2},
		{"receivers a/ route a/", 2}, {"receivers a/     route a/", 2}, {"receivers a/route -/", 2}, {"receivers a/route a continue/", 2}, {"receivers a/route a if x=\"\"/", 2}, {"receivers a/route a if x!~\"\"/", 2},
		{head + "route b/", 3}, {head + " route b/route b/", 4}, {head + "  route b/", 3}, {head + " route b/   route b/", 4}, {head + " route b/  route b/ route b/   route b/", 6},
		{head + " route b/  route b/   route b/    route b/     route b/      route b/", 8},
		{head + strings.Repeat(" ", 900) + "route b/", 3},
		{head + strings.Repeat(" route b/", 16), 18}, {head + strings.Repeat(" route b/", 40), 18},
		{head + strings.Repeat(" route b/", 16) + "route b/", 18}, {head + strings.Repeat(" route b/", 14) + "route b/ route b/ route b/", 17},
	} {
		checkFault(t, "P4", text(c.s), api.ErrTree, c.line)
	}
}

// TestP4Names: the fault of a name, where receivers are declared and where they are used.
func TestP4Names(t *testing.T) {
	for _, c := range []struct {
		s    string
		line int
	}{
		{"receivers a a/route a/", 1}, {"receivers a b c d e f g a/route a/", 1}, {"receivers a b b/route a/", 1}, {"receivers a a/route b/", 1}, {"receivers a a/route a/ route c/", 1},
		{"receivers a/route b/", 2}, {"receivers a/route A/", 2}, {"receivers ab/route a/", 2}, {"receivers a/route ab/", 2}, {"receivers a/route b/ route c/", 2},
		{head + " route c/", 3}, {head + " route b/ route -/ route c/ route d/", 5}, {head + " route c/ route b if x=~\"(\"/", 3},
	} {
		checkFault(t, "P4", text(c.s), api.ErrName, c.line)
	}
	checkPrinted(t, "P4", "receivers a A/route A/ route a/", same)
}

func TestP5WhichFaultIsFirst(t *testing.T) {
	for _, c := range []struct {
		s    string
		e    api.Errno
		line int
	}{
		{"", api.ErrSyntax, 1}, {"\n", api.ErrSyntax, 1}, {"receivers a", api.ErrSyntax, 1}, {"receivers a a", api.ErrSyntax, 1}, {"receivers a\nroute a", api.ErrSyntax, 2}, {"receivers a\nroute a\n ", api.ErrSyntax, 3}, {"receivers a\nroute a\n\n", api.ErrSyntax, 3}, {"\nreceivers a\nroute a\n", api.ErrSyntax, 1},
		{"receivers a\nroute\nroute a", api.ErrSyntax, 2}, {"receivers\nroute\n", api.ErrSyntax, 1}, {"receivers a\nx", api.ErrSyntax, 2},
		{"receivers a a\n route b\nroute b x\n", api.ErrSyntax, 3}, {"receivers a a\n route b\nroute b", api.ErrSyntax, 3},
		{"receivers a\n" + strings.Repeat("route a\n", 20) + "x\n", api.ErrSyntax, 22}, {"receivers a\n" + strings.Repeat("route a\n", 20), api.ErrTree, 3},
		{"receivers a a\nroute b\nroute c\n", api.ErrTree, 3}, {"receivers a a\n", api.ErrTree, 2}, {"receivers a a\nroute b\n", api.ErrName, 1},
		{text(head) + strings.Repeat(" route c\n", 16), api.ErrTree, 18}, {text(head) + strings.Repeat(" route c\n", 15), api.ErrName, 3},
		{strings.Repeat("x", 1200), api.ErrSyntax, 1}, {strings.Repeat("x", 1201), api.ErrLong, 0}, {strings.Repeat("\n", 1200), api.ErrSyntax, 1}, {strings.Repeat("\n", 5000), api.ErrLong, 0},
		{text(head) + strings.Repeat(" ", 1200), api.ErrLong, 0}, {text(head + strings.Repeat(" route b/", 200)), api.ErrLong, 0},
	} {
		checkFault(t, "P5", c.s, c.e, c.line)
	}
}

// TestP5Examples: the document's table, as far as Print has to do with it.
func TestP5Examples(t *testing.T) {
	for _, c := range []struct {
		s    string
		e    api.Errno
		line int
	}{
		{"", api.ErrSyntax, 1}, {"receivers a/", api.ErrTree, 2}, {"receivers a/route a", api.ErrSyntax, 2}, {"receivers a a/route a/", api.ErrName, 1}, {"receivers a/route b/", api.ErrName, 2}, {"receivers a/ route a/", api.ErrTree, 2}, {"receivers a/route a continue/", api.ErrTree, 2},
		{"receivers a b/route a/  route b/", api.ErrTree, 3}, {"receivers a b/route a/ route b  continue/", api.ErrSyntax, 3}, {"receivers a b/route a/ route b every 1 wait 1/", api.ErrSyntax, 3}, {"receivers a b/route a/ route c/ route b if x=~\"(\"/", api.ErrName, 3},
	} {
		checkFault(t, "P5", text(c.s), c.e, c.line)
	}
	checkPrinted(t, "P5", "receivers a b/route a/ route b if x=~\"(\"/", same)
}

func TestP6OneForm(t *testing.T) {
	checkPrinted(t, "P6", route(" by c,a,c wait 7 if x=\"\\x41\\x0a\""), route(" by a,c wait 7 if x=\"A\\x0a\""))
	for _, c := range []struct{ by, want string }{
		{"a,a,a,a", "a"}, {"b,a", "a,b"}, {"d,c,b,a", "a,b,c,d"}, {"ab,a", "a,ab"}, {"abc,ab,abd,a", "a,ab,abc,abd"}, {"a,_,Z,A", "A,Z,_,a"}, {"a1,a_,aA,a", "a,a1,aA,a_"}, {"b,a,b,a", "a,b"}, {"-", "-"},
	} {
		checkPrinted(t, "P6", "receivers a/route a by "+c.by+"/", "receivers a/route a by "+c.want+"/")
	}
	// What is told stays, though it would be inherited too; receivers keep their order.
	checkPrinted(t, "P6", "receivers b a/route a by - wait 30 every 300 repeat 14400/ route a by - wait 30 every 300 repeat 14400/ route -/", same)
	checkPrinted(t, "P6", route(" if y=\"\" if x=\"\" if y=\"\""), same)
}

// TestP1PrintIsAlone: no call ahead of it changes what Print answers.
func TestP1PrintIsAlone(t *testing.T) {
	s := text(route(" by c,a,c if x=\"\\x41\""))
	first, _, _ := Print(s)
	for _, other := range []string{"", "x", text(head), strings.Repeat("x", 1201), text(route(" by z"))} {
		Print(other)
		again, e, line := Print(s)
		if again != first || e != api.OK || line != 0 {
			t.Errorf("P1: behind %q: %q, %d, %d", other, again, e, line)
		}
	}
}

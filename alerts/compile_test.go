package alerts

import (
	"strings"
	"testing"

	"alerts/api"
)

func checkCompiled(t *testing.T, promise, s string, e api.Errno, line int) {
	t.Helper()
	p, gotE, gotLine := Compile(text(s))
	if (p != nil) != (e == api.OK) || gotE != e || gotLine != line {
		t.Errorf("%s: Compile(%.200q) = %v, %d, line %d, want %d, line %d", promise, s, p != nil, gotE, gotLine, e, line)
	}
}

func TestP9Expressions(t *testing.T) {
	for _, c := range []struct {
		value string
		e     api.Errno
	}{
		{``, api.OK}, {`(a|b)*abb`, api.OK}, {`[13]`, api.OK}, {`\x28\x29`, api.OK}, {`\\.[^x-z]{2,3}`, api.OK}, {`\\\\`, api.OK}, {`\"`, api.OK}, {`\x5c(`, api.OK}, {`[\x00-\xff]`, api.OK}, {`\x0a`, api.OK}, {`a{9}{4}bc`, api.OK}, {`(a|b)*a(a|b)(a|b)`, api.OK},
		{`(`, api.ErrRegex}, {`\x28`, api.ErrRegex}, {`\\`, api.ErrRegex}, {`\x5c`, api.ErrRegex}, {`[b-a]`, api.ErrRegex}, {`[]`, api.ErrRegex}, {`*`, api.ErrRegex}, {`a{2,1}`, api.ErrRegex}, {`((((((a))))))`, api.ErrRegex}, {`[\xff-\x00]`, api.ErrRegex}, {`((a{9}){5}`, api.ErrRegex},
		{`(a{9}){5}`, api.ErrLarge}, {`(a{9}){5}{0}`, api.ErrLarge}, {`a{9}{4}bcdef`, api.ErrLarge},
		{`(a|b)*a(a|b)(a|b)(a|b)(a|b)(a|b)`, api.ErrStates}, {`a{9}{4}bcd`, api.ErrStates}, {`.*a.{5}`, api.ErrStates},
	} {
		line := 0
		if c.e != api.OK {
			line = 3
		}
		checkCompiled(t, "P9", route(` if x=~"`+c.value+`"`), c.e, line)
		checkCompiled(t, "P9", route(` if x!~"`+c.value+`"`), c.e, line)
		checkCompiled(t, "P9", route(` if x="`+c.value+`"`), api.OK, 0)
		checkCompiled(t, "P9", route(` if x!="`+c.value+`"`), api.OK, 0)
	}
}

// The three faults of an expression, for the tests of their order.
const (
	noRegex = ` if x=~"("`
	large   = ` if x!~"(a{9}){5}"`
	many    = ` if x=~".*a.{5}"`
	fine    = ` if x=~"a*" if x="(" if x!="*"`
)

func TestP9WhichFaultIsFirst(t *testing.T) {
	for _, c := range []struct {
		s    string
		e    api.Errno
		line int
	}{
		{route(noRegex + large + many), api.ErrRegex, 3}, {route(large + noRegex + many), api.ErrLarge, 3}, {route(many + large + noRegex), api.ErrStates, 3}, {route(fine + many), api.ErrStates, 3}, {route(fine + noRegex + " continue"), api.ErrRegex, 3},
		{route(many) + " route b" + noRegex + "/", api.ErrStates, 3}, {route(fine) + " route b" + large + "/ route b" + noRegex + "/", api.ErrLarge, 4}, {route("") + "  route b" + fine + "/   route b" + noRegex + "/ route b" + many + "/", api.ErrRegex, 5},
		{head + strings.Repeat(" route b/", 14) + " route b" + many + "/", api.ErrStates, 17},
		{route(noRegex) + " route b x/", api.ErrSyntax, 4}, {route(noRegex) + " route b", api.ErrSyntax, 4}, {route(large) + "route b/", api.ErrTree, 4}, {route(many) + "   route b/", api.ErrTree, 4}, {route(noRegex) + " route c/", api.ErrName, 4}, {"receivers a a/route a/ route a" + noRegex + "/", api.ErrName, 1},
		{head + strings.Repeat(" route b"+noRegex+"/", 16), api.ErrTree, 18}, {"receivers a/route a" + noRegex + "/", api.ErrTree, 2}, {route(noRegex) + strings.Repeat("x", 1200), api.ErrLong, 0},
	} {
		checkCompiled(t, "P9", c.s, c.e, c.line)
	}
}

// TestP9Examples: the document's table, and its tree.
func TestP9Examples(t *testing.T) {
	for _, c := range []struct {
		s    string
		e    api.Errno
		line int
	}{
		{"", api.ErrSyntax, 1}, {"receivers a/", api.ErrTree, 2}, {"receivers a/route a", api.ErrSyntax, 2}, {"receivers a a/route a/", api.ErrName, 1}, {"receivers a/route b/", api.ErrName, 2}, {"receivers a/ route a/", api.ErrTree, 2}, {"receivers a/route a continue/", api.ErrTree, 2}, {"receivers a b/route a/  route b/", api.ErrTree, 3},
		{"receivers a b/route a/ route b  continue/", api.ErrSyntax, 3}, {"receivers a b/route a/ route b every 1 wait 1/", api.ErrSyntax, 3}, {"receivers a b/route a/ route c/ route b if x=~\"(\"/", api.ErrName, 3}, {"receivers a b/route a/ route b if x=~\"(\"/", api.ErrRegex, 3},
		{"receivers r a b c d/route r/ route a if x=\"1\"/  route b if y=\"1\" continue/  route c if y=~\"1|2\"/ route d if x!=\"\" continue/ route - wait 1 if x=~\"[13]\"/", api.OK, 0}, {"receivers r a/route r by l wait 1/ route - wait 2/  route a by - every 3/   route - repeat 4 if k=\"\"/", api.OK, 0},
	} {
		checkCompiled(t, "P9", c.s, c.e, c.line)
	}
}

// TestP9Edges: the greatest configurations compile, those that are greater do not.
func TestP9Edges(t *testing.T) {
	checkCompiled(t, "P9", sized(1200), api.OK, 0)
	checkCompiled(t, "P9", sized(1201), api.ErrLong, 0)
	checkCompiled(t, "P9", head+strings.Repeat(" route b/", 15), api.OK, 0)
	checkCompiled(t, "P9", head+strings.Repeat(" route -"+strings.Repeat(" if x=~\".*a.\"", 4)+"/", 15), api.OK, 0)
	checkCompiled(t, "P9", head+strings.Repeat(" route b"+many+"/", 15), api.ErrStates, 3)
}

// TestP1CompileIsAlone: no call ahead of it changes what Compile answers.
func TestP1CompileIsAlone(t *testing.T) {
	for _, other := range []string{"", head, route(noRegex), route(large), route(many), route(fine), strings.Repeat("x", 1201)} {
		Compile(text(other))
		checkCompiled(t, "P1", route(fine), api.OK, 0)
		checkCompiled(t, "P1", route(many), api.ErrStates, 3)
	}
}

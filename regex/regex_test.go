package regex

import (
	"reflect"
	"strings"
	"testing"

	"alerts/api"
)

func checkFault(t *testing.T, promise, text string, want api.Errno) {
	t.Helper()
	a, e := Compile(text)
	if e != want {
		t.Errorf("%s: Compile(%q): %d, want %d", promise, text, e, want)
	}
	if e != api.OK && !reflect.DeepEqual(a, Automaton{}) {
		t.Errorf("P1: Compile(%q) answers an automaton with fault %d", text, e)
	}
}

func mustCompile(t *testing.T, text string) Automaton {
	t.Helper()
	a, e := Compile(text)
	if e != api.OK {
		t.Fatalf("Compile(%q): %d", text, e)
	}
	return a
}

func TestP7Form(t *testing.T) {
	for _, s := range []string{
		"", "a", "|", "||", "a|", "|a", "a||b", "()", "(|)", "()()()()()()", "(a)(b)", "a**", "a*+?{1}{1,}{1,1}", "()*", "^$-,:\"/ ", "\x00\n\xff", "a,1", "1", "-", "^a",
		"\\\\", "\\(\\)\\|\\*\\+\\?\\{\\}\\[\\]\\.", "\\a", "\\\x00", "\\n",
		"[a]", "[^a]", "[^^]", "[a^]", "[\\^a]", "[\\]]", "[\\[]", "[\\-]", "[\\\\]", "[.]", "[(]", "[)*+?{}|]", "[a-a]", "[a-b]", "[^a-b]", "[a-bc-d]", "[ab-cd]", "[\\a-\\b]", "[+-\\]]", "[\\--a]", "[\x00-\xff]", "[^\x00-\xff]", "[,-.]", "[^^-a]", "[!-^]", "[aaa]",
		"a{0}", "a{9}", "a{0,}", "a{0,0}", "a{9,9}", "a{0,9}", "a{9,}",
		"(((((a)))))", "(((((a)))))(((((b)))))", "((((([(]\\()))))", "\\((((((a)))))\\)",
	} {
		checkFault(t, "P7", s, api.OK)
	}
	for _, s := range []string{
		"(", ")", "a)", "(a", "(a))", "((a)", ")(", "(|", "|)", "(a]", "[a)",
		"*", "+", "?", "{1}", "|*", "a|*", "(*", "(*)", "(|*)", "*a", "()|+",
		"{", "}", "a}", "a{", "a{}", "a{1", "a{,}", "a{,1}", "a{1,", "a{1,2", "a{12}", "a{1,12}", "a{12,}", "a{01}", "a{ 1}", "a{1 }", "a{1,,}", "a{1,2,}", "a{a}", "a{1,a}", "a{-1}", "a{2,1}", "a{9,0}", "a{1}}", "a{/}", "a{:}", "a{1,/}", "a{1,:}", "a{1]", "{}", "a{\\1}",
		"[", "]", "a]", "[]", "[]]", "[]a]", "[^", "[^]", "[^]]", "[a", "[^a", "[a]]", "[[]", "[a[]", "[[a]]", "[-]", "[-a]", "[a-]", "[a-", "[a--]", "[--a]", "[a-b-c]", "[a-b-]", "[^-a]", "[^-]", "[b-a]", "[\xff-\x00]", "[\\b-\\a]", "[a-[]", "[a-]]", "[a-\\]]", "[\\", "[\\]", "[a\\", "[a-\\", "[a-\\]",
		"\\", "a\\", "(\\)", "\\\\\\",
		"((((((a))))))", "((((((", "(((((()))))", "(((((()))))))", "a((((((b))))))",
	} {
		checkFault(t, "P7", s, api.ErrRegex)
	}
}

func TestP7Takes(t *testing.T) {
	for _, c := range []struct{ text, takes, not string }{
		{"(a|b)*abb", "abb ababb aabb babb", "abba ab , abbb"}, {"\\.[^x-z]{2,3}", ".ab .abc .\x00\xff ...", "ab .a .abcd .xa .ay .az"},
		{"", ",", "a"}, {"a", "a", ", b aa A"}, {"ab", "ab", "a b ba abb"}, {"a|b", "a b", ", ab c"}, {"ab|cd", "ab cd", "abd acd abcd"}, {"a|", ", a", "aa |"}, {"|a", ", a", "aa"},
		{"a*", ", a aaaa", "b ab"}, {"a+", "a aaaa", ", b"}, {"a?", ", a", "aa"}, {"ab*", "a ab abb", "abab ,"}, {"(ab)*", ", ab abab", "a abb aba"}, {"a|b*", "a , bb", "ab aa"},
		{"a{2}", "aa", "a aaa ,"}, {"a{0}", ",", "a"}, {"a{2,}", "aa aaa aaaaaaaaaaaa", "a ,"}, {"a{0,}", ", a aaa", "b"}, {"a{1,3}", "a aa aaa", ", aaaa"}, {"a{2,2}", "aa", "a aaa"}, {"a{0,2}", ", a aa", "aaa"}, {"a{9}", "aaaaaaaaa", "aaaaaaaa aaaaaaaaaa"},
		{"a{2}{3}", "aaaaaa", "aaaaa aaaaaaa aaa aa"}, {"a{2}?", ", aa", "a aaa"}, {"(a{2}|b){2}", "aaaa aab baa bb", "aa ab aaa"}, {"a**", ", a aa", "b"}, {"a?+", ", a aa", "b"}, {"a{2}*", ", aa aaaa", "a aaa"},
		{"[abc]", "a b c", ", d ab"}, {"[a-c]", "a b c", "d - `"}, {"[^a-c]", "d - ` \x00 \xff", "a b c , dd"}, {"[a^]", "a ^", "b"}, {"[^^]", "a", "^"}, {"[\\]-\\]]", "]", "\\ [ -"}, {"[\\-a]", "- a", "\\ b"}, {"[\\\\]", "\\", "-"}, {"[a-bd-e]", "a b d e", "c f"}, {"[.]", ".", "a"}, {"[^\x00-\xff]", "", ", a \x00"}, {"[^\x00-\xff]*", ",", "a"}, {"a|[^\x00-\xff]", "a", ", b"}, {"[a-a]", "a", "b `"},
		{"^a$", "^a$", "a"}, {"\\n", "n", "\n \\n"}, {"\\(a\\)", "(a)", "a"}, {"a.b", "aab a.b a\nb a\x00b a\xffb", "ab aabb"}, {"..", "ab \x00\n", "a abc"}, {"()", ",", "a"}, {"(a|b)(c|d)", "ac ad bc bd", "ab cd a"}, {"((a|b)+c)?d", "d acd abbcd", "cd abd"},
		{"a{1,2}{2}", "aa aaa aaaa", "a aaaaa"}, {"(a*b*)*", ", abba", "c"}, {"(|a){3}", ", a aa aaa", "aaaa"},
	} {
		a := mustCompile(t, c.text)
		checkTakes(t, c.text, a, c.takes, true)
		checkTakes(t, c.text, a, c.not, false)
	}
}

// checkTakes: the values stand with a blank between, a comma is the empty one.
func checkTakes(t *testing.T, text string, a Automaton, values string, want bool) {
	t.Helper()
	if values == "" {
		return
	}
	for _, v := range strings.Split(values, " ") {
		if v == "," {
			v = ""
		}
		if a.Takes(v) != want {
			t.Errorf("P7: %q takes %q: %v", text, v, !want)
		}
	}
}

// TestP7EachByte: what each byte means by itself, behind a backslash and in a class.
func TestP7EachByte(t *testing.T) {
	for c := range 256 {
		b := string([]byte{byte(c)})
		fault := api.OK
		if strings.Contains("()|*+?{}[].\\", b) {
			fault = api.ErrRegex
		}
		if b == "." || b == "|" {
			fault = api.OK
		}
		checkFault(t, "P7", b, fault)
		checkOnly(t, "\\"+b, c)
		checkOnly(t, "[\\"+b+"]", c)
		checkOnly(t, "[\\"+b+"-\\"+b+"]", c)
		if fault == api.OK && b != "." && b != "|" {
			checkOnly(t, b, c)
		}
		if strings.Contains("][-\\", b) {
			checkFault(t, "P7", "["+b+"]", api.ErrRegex)
		} else if b != "^" {
			checkOnly(t, "["+b+"]", c)
			checkOnly(t, "["+b+b+"]", c)
		}
	}
}

// checkOnly: the text takes this one byte alone.
func checkOnly(t *testing.T, text string, c int) {
	t.Helper()
	a := mustCompile(t, text)
	for other := range 256 {
		if a.Takes(string([]byte{byte(other)})) != (other == c) {
			t.Errorf("P7: %q and byte %d", text, other)
		}
	}
}

func TestP7Ranges(t *testing.T) {
	for _, c := range []struct{ first, last int }{{0, 255}, {0, 0}, {255, 255}, {1, 254}, {63, 64}, {127, 128}, {191, 192}, {64, 127}, {'a', 'z'}, {0, 127}, {128, 255}} {
		items := "\\" + string([]byte{byte(c.first)}) + "-\\" + string([]byte{byte(c.last)})
		in, out := mustCompile(t, "["+items+"]"), mustCompile(t, "[^"+items+"]")
		for b := range 256 {
			v := string([]byte{byte(b)})
			want := b >= c.first && b <= c.last
			if in.Takes(v) != want || out.Takes(v) == want {
				t.Errorf("P7: %d to %d, byte %d", c.first, c.last, b)
			}
		}
	}
}

func TestP8Places(t *testing.T) {
	for _, c := range []struct {
		text string
		e    api.Errno
	}{
		{"(a{9}){5}{0}", api.ErrLarge}, {"a{9}{5}{0}", api.ErrLarge}, {"(a{9}){5}", api.ErrLarge}, {"a{9}{4}", api.OK}, {"((a{9}){5}|b){0}", api.ErrLarge}, {"(a{9}{4}bcdef){0}", api.ErrLarge}, {"(a{9}{4}bcde){0}", api.OK}, {"(b|a{9}{5}{0})", api.ErrLarge}, {"a{9}{5}{0}{0}", api.ErrLarge}, {"(a{9}{5}{0}){0}b", api.ErrLarge},
		{".{8}{5}{0}", api.OK}, {".{8,}{5}{0}", api.ErrLarge}, {".{7,}{5}{0}", api.OK}, {".{0,8}{5}{0}", api.OK}, {".{0,9}{5}{0}", api.ErrLarge}, {".{5}{7,}{0}", api.OK}, {".{5}{8,}{0}", api.ErrLarge}, {"(.{8}{5}){1,1}{0}", api.OK}, {"(.{8}{5})+", api.ErrLarge}, {"(.{5}{4})+{0}", api.OK}, {"(.{7}{3})+{0}", api.ErrLarge},
		{"(.{8}{5})*{0}", api.OK}, {"(.{8}{5})?{0}", api.OK}, {"(.{8}{5}){0}(.{8}{5}){0}", api.OK}, {"(.{8}{5}[ab]){0}", api.ErrLarge}, {"(.{8}{5}[^ab]){0}", api.ErrLarge}, {"(.{8}{5}\\a){0}", api.ErrLarge}, {"(.{8}{5}|b){0}", api.ErrLarge}, {"(.{8}{5}|()){0}", api.OK}, {"(.{8}{5}[^\x00-\xff]){0}", api.ErrLarge},
		{"(){9}{9}{9}{9}{9}{9}{9}{9}{9}{9}{9}{9}", api.OK}, {"a{0}{9}{9}{9}{9}{9}{9}{9}{9}{9}{9}{9}", api.OK}, {"a{9}{9}{9}{9}{9}{9}{9}{9}{9}{9}{9}{9}{9}", api.ErrLarge}, {"(a{9}){9}(", api.ErrRegex}, {"(a{9}){9}{2,1}", api.ErrRegex},
		{"a{4}{5}a{4}{5}{0}a{9}{2}", api.OK}, {"a{9}{4}a{4}b", api.ErrLarge}, {"(a|b){9}{2}|c{4}", api.OK}, {"(a|b){9}{2}|c{5}", api.ErrLarge},
	} {
		checkFault(t, "P8", c.text, c.e)
		n := &seen{}
		n.check(t, c.text, edges(c.text), nil)
	}
}

// TestP8States: the numbers of states, counted from the document's rules.
func TestP8States(t *testing.T) {
	for _, c := range []struct {
		text   string
		states int
	}{
		{"(a|b)*a", 3}, {"", 2}, {"a", 3}, {".", 3}, {"[^\x00-\xff]", 1}, {"a*", 2}, {".*", 1}, {"()*", 2}, {"a?", 3}, {"a|b", 3}, {"ab", 4}, {"a{9}", 11}, {"[ab]|[bc]", 3}, {".**", 1}, {"a{0}", 2}, {"(a|.)*", 1}, {"[^\x00-\xff]a", 1}, {"[^\x00-\xff]*", 2},
		{"a{9}{4}bc", 40}, {"a{9}{4}b", 39}, {"a{9}{4}aa", 40},
	} {
		a := mustCompile(t, c.text)
		if len(a.Accepts) != c.states {
			t.Errorf("P8: %q has %d states, want %d", c.text, len(a.Accepts), c.states)
		}
		n := &seen{}
		n.check(t, c.text, everyByte(), []string{"", "a"})
	}
	for _, s := range []string{"a{9}{4}bcd", "(a|b)*a(a|b)(a|b)(a|b)(a|b)(a|b)", ".*a.{5}", "(a{5}b{5}){4}", "a{9}{4}aaa(b*)*"} {
		checkFault(t, "P8", s, api.ErrStates)
	}
	for _, s := range []string{"(a|b)*a(a|b)(a|b)", ".*a.{0,4}", ".*a.{4}", "a{9}{4}aa(b*)"} {
		checkFault(t, "P8", s, api.OK)
	}
}

// TestP8Rules: expressions whose number of states hangs on one of the rules,
// against the second reading, with every byte.
func TestP8Rules(t *testing.T) {
	n := &seen{}
	for _, s := range []string{
		"(ab)c|a(bc)", "(abc)*|a(bc)(abc)*", "(a|b|a)c", "(a|(b|c))d|(c|b|a)d", "a*?*", "(a*)*b", "(a?)*b", "(a|)*b", "(|a)(|a)", "a?a?a?", "(a{0}|b)c", "a{1,3}b{2,}", "(a{2,3}){2}", "(ab|ac)*d", "(ab?)*(ab?)*", "((a*b)*c)*", "(a*|b)*c", "(a|b)c|(b|a)c", "([ab]|c)([a-c]d|e)", "[a-c]d|[b-d]d", "(a*a*)*", "a*a*a*b", "(.*a|b*){2}", "((ab)*(ba)*)*", "(a+b+)+", "x(a|b){0,3}y", "(xa|xb)*x", "()a()b()", "(()|a)b", "(a*b*c*)*d", "a+?{2}", "(a?b?c?)*", "((a|b)?c){2,4}", ".*(ab|ba).*", ".*a.{3}", "(a?){9}", "(a|ab)(c|bcd)(d*)",
	} {
		n.check(t, s, everyByte(), []string{"", "a", "b", "ab", "abc", "aab", "abab", "c", "d", "bd"})
	}
	if n.faults[api.OK] < 30 {
		t.Errorf("only %d compile", n.faults[api.OK])
	}
}

// TestP1Alone: no call ahead of it changes what Compile answers, nor does who
// writes into an automaton.
func TestP1Alone(t *testing.T) {
	s := "(a|b)*a[^c]{2}"
	first := mustCompile(t, s)
	for _, other := range []string{"", "(", "a{9}{9}", ".*a.{5}", s} {
		a, _ := Compile(other)
		for i := range a.Next {
			a.Next[i] = 0
		}
		for i := range a.Accepts {
			a.Accepts[i] = true
		}
		if again := mustCompile(t, s); !reflect.DeepEqual(again, first) {
			t.Errorf("P1: %q is another automaton behind %q", s, other)
		}
	}
}

// TestLongTexts: Compile is handed values of 40 bytes at the most, but ends at all texts.
func TestLongTexts(t *testing.T) {
	for _, c := range []struct {
		text string
		e    api.Errno
	}{
		{strings.Repeat("a", 10000), api.ErrLarge}, {strings.Repeat("()", 10000), api.OK}, {strings.Repeat("(", 10000), api.ErrRegex}, {"a" + strings.Repeat("*", 3000), api.OK}, {"a" + strings.Repeat("{9}", 3000), api.ErrLarge}, {"(" + strings.Repeat("|", 3000) + ")", api.OK}, {"[" + strings.Repeat("a", 10000) + "]", api.OK},
	} {
		checkFault(t, "P1", c.text, c.e)
	}
}

// TestWrongAutomata: such as come with a fault, or whose steps lead nowhere, take nothing.
func TestWrongAutomata(t *testing.T) {
	for _, a := range []Automaton{{}, {Classes: 1}, {Classes: 1, Next: []int{1}}, {Classes: 1, Next: []int{-1}}, {Classes: 1, Next: []int{-1}, Accepts: []bool{false}}, {Classes: 1, Next: []int{1}, Accepts: []bool{false}}} {
		for _, v := range []string{"", "a", "aa", "\xff"} {
			if a.Takes(v) {
				t.Errorf("%v takes %q", a, v)
			}
		}
	}
}

// TestClasses: bytes that no part of the expression tells apart have one class.
func TestClasses(t *testing.T) {
	for _, c := range []struct {
		text    string
		classes int
	}{{"", 1}, {".*", 1}, {"a", 2}, {"aa|a", 2}, {"[ab]*", 2}, {"[ab][^ab]", 2}, {"(a|b)*a", 3}, {"[a-m][k-z]", 4}, {"abc", 4}, {"[^\x00-\xff]", 1}} {
		a := mustCompile(t, c.text)
		if a.Classes != c.classes {
			t.Errorf("%q has %d classes, want %d", c.text, a.Classes, c.classes)
		}
	}
}

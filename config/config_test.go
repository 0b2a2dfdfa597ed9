package config

import (
	"fmt"
	"reflect"
	"strconv"
	"strings"
	"testing"

	"alerts/api"
)

// text: a slash is a line's end.
func text(s string) string { return strings.ReplaceAll(s, "/", "\n") }

func mustRead(t *testing.T, s string) Config {
	t.Helper()
	c, e, line := Read(text(s))
	if e != api.OK || line != 0 {
		t.Fatalf("Read(%q): %d, line %d", s, e, line)
	}
	return c
}

func TestIsName(t *testing.T) {
	for _, s := range []string{"a", "z", "A", "Z", "_", "a0", "_9", "__", "aB_c9Z09", "route", "abcdefgh"} {
		if !IsName(s) {
			t.Errorf("%q is a name", s)
		}
	}
	for _, s := range []string{"", "9", "0a", "-", "a-", "a b", " a", "a ", "a,", "abcdefghi", "\xe4", "a\x00", "a\n", "@", "[", "`", "{", "a/", "a:"} {
		if IsName(s) {
			t.Errorf("%q is no name", s)
		}
	}
	for c := 0; c < 256; c++ {
		letter := strings.Contains("abcdefghijklmnopqrstuvwxyzABCDEFGHIJKLMNOPQRSTUVWXYZ_", string(rune(c))) && c < 128
		digit := c >= '0' && c <= '9'
		if IsName(string([]byte{byte(c)})) != letter || IsName(string([]byte{'a', byte(c)})) != (letter || digit) {
			t.Errorf("byte %d in a name", c)
		}
	}
}

func TestReadParts(t *testing.T) {
	c := mustRead(t, "receivers a b/route a by -/ route - by y,x,y wait 0 every 5 repeat 99999 if k=\"v\" if l!=\"\\x00\" if m=~\"\" if n!~\" \" continue/")
	want := Config{
		Receivers: []string{"a", "b"},
		Routes: []Route{
			{Receiver: "a", TellsBy: true, Wait: NotTold, Every: NotTold, Repeat: NotTold},
			{Depth: 1, Receiver: Parents, TellsBy: true, By: []string{"x", "y"}, Wait: 0, Every: 5, Repeat: 99999,
				If: []Matcher{{"k", api.Is, "v"}, {"l", api.IsNot, "\x00"}, {"m", api.Like, ""}, {"n", api.Unlike, " "}}, Continue: true},
		},
	}
	if !reflect.DeepEqual(c, want) {
		t.Errorf("P2, P3: %+v, want %+v", c, want)
	}
}

func TestReadFaultAnswersNothing(t *testing.T) {
	for _, s := range []string{"", "receivers a/", "receivers a/route b/", "receivers a/route a", strings.Repeat("x", 1201)} {
		c, e, _ := Read(text(s))
		if e == api.OK || !reflect.DeepEqual(c, Config{}) {
			t.Errorf("P1: Read(%.30q) = %+v, %d", s, c, e)
		}
	}
}

// TestValueOfEachByte: each byte as it is written in the two ways.
func TestValueOfEachByte(t *testing.T) {
	for b := 0; b < 256; b++ {
		hex := strconv.FormatInt(int64(b)+256, 16)[1:]
		raw := string([]byte{byte(b)})
		plain := b >= 32 && b <= 126 && raw != "\"" && raw != "\\"
		s := scanner{text: "\"" + raw + "\""}
		v, ok := s.takeValue()
		if ok && !s.atEnd() {
			ok = false
		}
		if ok != plain || ok && v != raw {
			t.Errorf("P3: byte %d by itself: %q, %t", b, v, ok)
		}
		s = scanner{text: "\"\\x" + hex + "\""}
		v, ok = s.takeValue()
		if !ok || v != raw || !s.atEnd() {
			t.Errorf("P3: byte %d with \\x: %q, %t", b, v, ok)
		}
		s = scanner{text: "\"\\" + raw + "\""}
		v, ok = s.takeValue()
		ok = ok && s.atEnd()
		if want := raw == "\"" || raw == "\\"; ok != want || ok && v != raw {
			t.Errorf("P3: byte %d behind a backslash: %q, %t", b, v, ok)
		}
	}
}

func TestParentOf(t *testing.T) {
	c := mustRead(t, "receivers a/route a/ route a/  route a/   route a/  route a/ route a/  route a/   route a/    route a/     route a/ route a/")
	want := []int{-1, 0, 1, 2, 1, 0, 5, 6, 7, 8, 0}
	for i, w := range want {
		if p := ParentOf(c.Routes, i); p != w {
			t.Errorf("P4: parent of %d is %d, want %d", i, p, w)
		}
	}
	for _, i := range []int{-1, len(want), len(want) + 1} {
		if p := ParentOf(c.Routes, i); p != -1 {
			t.Errorf("P4: parent of %d, which is not there, is %d", i, p)
		}
	}
}

func TestHits(t *testing.T) {
	for _, c := range []struct{ s, want string }{
		{"receivers a/route a/", "{a [] 30 300 14400}"},
		{"receivers a b/route a/ route b/ route -/", "{a [] 30 300 14400} {b [] 30 300 14400} {a [] 30 300 14400}"},
		{"receivers r a/route r by l wait 1/ route - wait 2/  route a by - every 3/   route - repeat 4 if k=\"\"/",
			"{r [l] 1 300 14400} {r [l] 2 300 14400} {a [] 2 3 14400} {a [] 2 3 4}"},
		// A brother hands nothing on; a time of 0 is told.
		{"receivers r a/route r by z,y,z wait 9 every 8 repeat 7/ route a by - wait 0 every 0 repeat 0/ route -/  route a by x/",
			"{r [y z] 9 8 7} {a [] 0 0 0} {r [y z] 9 8 7} {a [x] 9 8 7}"},
	} {
		hits := fmt.Sprint(Hits(mustRead(t, c.s).Routes))
		if hits != "["+c.want+"]" {
			t.Errorf("P4: %q: %s, want %s", c.s, hits, c.want)
		}
	}
}

// TestHitsAreTheCallers: lists of labels have no spare room and share none.
func TestHitsAreTheCallers(t *testing.T) {
	c := mustRead(t, "receivers a/route a by x,y,z/ route -/")
	hits := Hits(c.Routes)
	for _, h := range hits {
		if len(h.By) != cap(h.By) {
			t.Errorf("P1: spare room: %d of %d", len(h.By), cap(h.By))
		}
	}
	hits[0].By[0] = "changed"
	if hits[1].By[0] != "x" || Hits(c.Routes)[0].By[0] != "x" {
		t.Errorf("P1: lists share memory")
	}
}

func TestRisingOnceLeavesItsList(t *testing.T) {
	list := []string{"c", "a", "c", "b", "spare"}
	got := risingOnce(list[:4])
	if !reflect.DeepEqual(got, []string{"a", "b", "c"}) || !reflect.DeepEqual(list, []string{"c", "a", "c", "b", "spare"}) {
		t.Errorf("P6: %q of %q", got, list)
	}
}

func TestLineOf(t *testing.T) {
	if LineOf(0) != 2 || LineOf(15) != 17 {
		t.Errorf("lines %d, %d", LineOf(0), LineOf(15))
	}
}

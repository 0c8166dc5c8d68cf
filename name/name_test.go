package name_test

import (
	"math"
	"slices"
	"strings"
	"testing"

	"rubric/api"
	"rubric/class"
	"rubric/name"
)

// What a part of a text may be.
const (
	begins = iota // runes that begin a name, the colon left out
	colon
	within // runes of a name that don't begin one
	other  // runes that no name has
	bytes  // bytes that are no rune
)

// part is some bytes of a text, of one kind: behind whatever other part they stand, they stay of that kind.
type part struct {
	s    string
	kind int
}

var parts = []part{
	{"a", begins}, {"_", begins}, {"é", begins}, {"\uFFFD", begins}, {"\U000EFFFF", begins},
	{":", colon},
	{"-", within}, {"1", within}, {"\u0300", within},
	{" ", other}, {"\n", other}, {"\u00D7", other}, {"\uFFFE", other}, {"\x00", other},
	{"\xFF", bytes}, {"\xC3", bytes}, {"\xEF\xBF", bytes}, {"\xED\xA0\x80", bytes}, {"\xC0\xBA", bytes},
}

// all calls f with each row of at most n parts.
func all(n int, f func(l []part)) {
	var grow func(l []part)
	grow = func(l []part) {
		f(l)
		if len(l) == n {
			return
		}
		for _, p := range parts {
			grow(append(l[:len(l):len(l)], p))
		}
	}
	grow([]part{})
}

// text is parts, one behind the other.
func text(l []part) string {
	s := ""
	for _, p := range l {
		s += p.s
	}
	return s
}

// isToken, isName, isPlain: the chapter's words, of parts.
func isToken(l []part) bool {
	return len(l) > 0 && !slices.ContainsFunc(l, func(p part) bool { return p.kind == other || p.kind == bytes })
}

func isName(l []part) bool { return isToken(l) && l[0].kind != within }

func isPlain(l []part) bool {
	return isName(l) && !slices.ContainsFunc(l, func(p part) bool { return p.kind == colon })
}

// qualified are the prefix and the local name of parts, and whether there are any.
func qualified(l []part) (string, string, bool) {
	if isPlain(l) {
		return "", text(l), true
	}
	for i, p := range l {
		if p.kind == colon && isPlain(l[:i]) && isPlain(l[i+1:]) {
			return text(l[:i]), text(l[i+1:]), true
		}
	}
	return "", "", false
}

// P5.1
func TestNamesOfParts(t *testing.T) {
	all(4, func(l []part) {
		s := text(l)
		if name.Name(s) != isName(l) || name.Plain(s) != isPlain(l) || name.Token(s) != isToken(l) {
			t.Fatalf("%q: Name %v, Plain %v, Token %v", s, name.Name(s), name.Plain(s), name.Token(s))
		}
	})
}

// P5.1: a text of one rune, and of one behind another, is what the runes are for.
func TestNamesOfEachRune(t *testing.T) {
	for r := rune(0); r <= 0x10FFFF; r++ {
		if 0xD800 <= r && r <= 0xDFFF {
			continue
		}
		s, start, char := string(r), class.NameStart(r), class.NameChar(r)
		if name.Name(s) != start || name.Plain(s) != (start && r != ':') || name.Token(s) != char {
			t.Errorf("%x is read otherwise than by its class", r)
		}
		if name.Name("a"+s) != char || name.Plain("a"+s) != (char && r != ':') {
			t.Errorf("a and %x are read otherwise than by the classes", r)
		}
	}
}

// P5.1: some by their texts.
func TestNamesOfSomeTexts(t *testing.T) {
	for _, c := range []struct {
		s                  string
		name, plain, token bool
	}{
		{"", false, false, false},
		{"a", true, true, true},
		{"xml:lang", true, false, true},
		{":", true, false, true},
		{"::", true, false, true},
		{":a", true, false, true},
		{"a:", true, false, true},
		{"a:b:c", true, false, true},
		{"-a", false, false, true},
		{"1", false, false, true},
		{".", false, false, true},
		{"\u00B7", false, false, true},
		{"1:a", false, false, true},
		{"a:1", true, false, true},
		{"a b", false, false, false},
		{" a", false, false, false},
		{"a ", false, false, false},
		{"a\n", false, false, false},
		{"<a", false, false, false},
		{"a\uFFFD", true, true, true},
		{"\uFFFD", true, true, true},
		{"a\xFF", false, false, false},
		{"\xFFa", false, false, false},
		{"a\xEF\xBF\xBD\xEF\xBF", false, false, false},
		{"-\x80", false, false, false},
		{"\xFF:a", false, false, false},
	} {
		if name.Name(c.s) != c.name || name.Plain(c.s) != c.plain || name.Token(c.s) != c.token {
			t.Errorf("%q: Name %v, Plain %v, Token %v", c.s, name.Name(c.s), name.Plain(c.s), name.Token(c.s))
		}
	}
}

// P5.1
func TestSplitOfParts(t *testing.T) {
	all(4, func(l []part) {
		s := text(l)
		prefix, local, ok := name.Split(s)
		if p, q, want := qualified(l); prefix != p || local != q || ok != want {
			t.Fatalf("Split(%q) = %q, %q, %v, want %q, %q, %v", s, prefix, local, ok, p, q, want)
		}
	})
}

// P5.1
func TestSplitOfSomeTexts(t *testing.T) {
	for _, c := range []struct {
		s, prefix, local string
		ok               bool
	}{
		{"a:b", "a", "b", true},
		{"a", "", "a", true},
		{"a-1:_.", "a-1", "_.", true},
		{"\uFFFD:é", "\uFFFD", "é", true},
		{"", "", "", false},
		{":", "", "", false},
		{"::", "", "", false},
		{":b", "", "", false},
		{"a:", "", "", false},
		{"a::b", "", "", false},
		{"a:b:c", "", "", false},
		{"a:1", "", "", false},
		{"1:a", "", "", false},
		{"a:b ", "", "", false},
		{"-", "", "", false},
		{"a:\xFF", "", "", false},
		{"\xEF\xBF:b", "", "", false},
		{"a\xFF", "", "", false},
	} {
		if p, l, ok := name.Split(c.s); p != c.prefix || l != c.local || ok != c.ok {
			t.Errorf("Split(%q) = %q, %q, %v", c.s, p, l, ok)
		}
	}
}

// P5.1: what is joined need be no name.
func TestJoin(t *testing.T) {
	for _, c := range [][3]string{
		{"", "", ""},
		{"", "b", "b"},
		{"", "b:c", "b:c"},
		{"a", "b", "a:b"},
		{"a", "", "a:"},
		{":", ":", ":::"},
		{" ", "1", " :1"},
		{"\xFF", "\x00", "\xFF:\x00"},
	} {
		if s := name.Join(c[0], c[1]); s != c[2] {
			t.Errorf("Join(%q, %q) = %q", c[0], c[1], s)
		}
	}
}

// longest is how many runes from one of them on are a name, as the chapter tells it: all lengths are tried.
func longest(l []rune, from int) int {
	n := 0
	for to := from + 1; from >= 0 && from < len(l) && to <= len(l); to++ {
		if class.NameStart(l[from]) && class.All(l[from:to], class.NameChar) {
			n = to - from
		}
	}
	return n
}

// P5.2
func TestLeadOfRows(t *testing.T) {
	signs := []rune{'a', ':', '-', 0xFFFD, ' ', api.Bad, 0xD800, math.MinInt32, math.MaxInt32}
	var grow func(l []rune)
	grow = func(l []rune) {
		for _, from := range []int{math.MinInt, -1, 0, 1, 2, 3, 4, 5, math.MaxInt} {
			if n := name.Lead(l, from); n != longest(l, from) {
				t.Fatalf("Lead(%x, %d) = %d", l, from, n)
			}
		}
		if len(l) == 4 {
			return
		}
		for _, r := range signs {
			grow(append(l[:len(l):len(l)], r))
		}
	}
	grow(nil)
}

// P5.2: from somewhere in a row, up to its end, and beyond.
func TestLeadOfSomeRows(t *testing.T) {
	for _, c := range []struct {
		s       string
		from, n int
	}{
		{"<x1 >", 1, 2},
		{"<x1 >", 0, 0},
		{"<x1 >", 2, 0},
		{"<x1 >", 3, 0},
		{"a:b=", 0, 3},
		{"<abc", 1, 3},
		{"<abc", 3, 1},
		{"abc", -1, 0},
		{"abc", 3, 0},
		{"abc", 4, 0},
		{"abc", math.MaxInt, 0},
		{"abc", math.MinInt, 0},
		{"", 0, 0},
		{"é\uFFFDx", 0, 3},
	} {
		if n := name.Lead([]rune(c.s), c.from); n != c.n {
			t.Errorf("Lead(%q, %d) = %d", c.s, c.from, n)
		}
	}
	if n := name.Lead([]rune{'a', api.Bad, 'b'}, 0); n != 1 {
		t.Error("a name goes on behind bytes that are no rune:", n)
	}
}

// parted are a text's words, as the chapter tells them: byte by byte.
func parted(s string) []string {
	var l []string
	begin := 0
	for i := 0; i <= len(s); i++ {
		if i == len(s) || s[i] == 0x20 {
			if begin < i {
				l = append(l, s[begin:i])
			}
			begin = i + 1
		}
	}
	return l
}

// P5.2
func TestWordsOfParts(t *testing.T) {
	all(4, func(l []part) {
		s := text(l)
		if got := name.Words(s); !slices.Equal(got, parted(s)) {
			t.Fatalf("Words(%q) = %q", s, got)
		}
	})
}

// P5.2: only the byte 20 parts them.
func TestWordsOfSomeTexts(t *testing.T) {
	for _, c := range []struct {
		s    string
		want []string
	}{
		{"", nil},
		{" ", nil},
		{"    ", nil},
		{"a", []string{"a"}},
		{"a b", []string{"a", "b"}},
		{"  a   b  ", []string{"a", "b"}},
		{"\t", []string{"\t"}},
		{"a\tb\nc\rd e", []string{"a\tb\nc\rd", "e"}},
		{" \n ", []string{"\n"}},
		{"a\u00A0b\u2003c\u3000d\u0085e", []string{"a\u00A0b\u2003c\u3000d\u0085e"}},
		{"\xFF \xC3 \xE2\x80", []string{"\xFF", "\xC3", "\xE2\x80"}},
		{"b a b", []string{"b", "a", "b"}},
	} {
		if got := name.Words(c.s); !slices.Equal(got, c.want) {
			t.Errorf("Words(%q) = %q", c.s, got)
		}
	}
}

// P5.2 and the rules that hold everywhere, 4: what is written into an answer, or put behind it, is seen by no later one.
func TestWordsAreNew(t *testing.T) {
	const s = "a b c"
	l := name.Words(s)
	l[0] = "x"
	_ = append(l[:1], "y")
	if got := name.Words(s); !slices.Equal(got, []string{"a", "b", "c"}) {
		t.Errorf("Words(%q) = %q after an answer was written into", s, got)
	}
}

// P5.3: Join of Split is the name.
func TestJoinOfSplit(t *testing.T) {
	all(4, func(l []part) {
		s := text(l)
		if prefix, local, ok := name.Split(s); ok && name.Join(prefix, local) != s {
			t.Fatalf("%q is %q, joined again", s, name.Join(prefix, local))
		}
	})
}

// P5.3: Split of Join of two plain names is the two.
func TestSplitOfJoin(t *testing.T) {
	var plain []string
	all(2, func(l []part) {
		if s := text(l); name.Plain(s) {
			plain = append(plain, s)
		}
	})
	if len(plain) < 10 {
		t.Fatal("only these are plain:", plain)
	}
	for _, a := range plain {
		for _, b := range plain {
			if p, l, ok := name.Split(name.Join(a, b)); p != a || l != b || !ok {
				t.Errorf("%q and %q are %q, %q, %v, split again", a, b, p, l, ok)
			}
		}
	}
}

// P5.3: each plain name is a name, each name a piece.
func TestNamesWithinOneAnother(t *testing.T) {
	all(4, func(l []part) {
		s := text(l)
		if name.Plain(s) && !name.Name(s) || name.Name(s) && !name.Token(s) {
			t.Fatalf("%q: Plain %v, Name %v, Token %v", s, name.Plain(s), name.Name(s), name.Token(s))
		}
	})
}

// P1: long texts end, too.
func TestLongNames(t *testing.T) {
	s := strings.Repeat("a", api.MaxBytes)
	if !name.Name(s) || !name.Plain(s) || !name.Token(s) || name.Lead([]rune(s), 1) != len(s)-1 {
		t.Error("a long name is none")
	}
	if p, l, ok := name.Split(s + ":" + s); p != s || l != s || !ok {
		t.Error("a long qualified name is none")
	}
	if n := len(name.Words(strings.Repeat("a ", api.MaxBytes))); n != api.MaxBytes {
		t.Error("words of a long text:", n)
	}
}

// The rules that hold everywhere, 4: a row that is handed in is not changed.
func TestRowsStay(t *testing.T) {
	l := []rune{'a', ':', api.Bad, ' '}
	was := slices.Clone(l)
	name.Lead(l, 0)
	if !slices.Equal(l, was) {
		t.Errorf("%x is %x now", was, l)
	}
}

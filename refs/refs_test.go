package refs_test

import (
	"math"
	"math/big"
	"regexp"
	"slices"
	"strconv"
	"strings"
	"testing"

	"rubric/api"
	"rubric/refs"
	"rubric/rows"
)

// What the chapter says, as patterns of texts whose bytes stand for runes.
const namePattern = `[A-Za-z_:\x02][A-Za-z_:\x02\x03.0-9-]*`

var (
	plainIs  = regexp.MustCompile(`\A[^&]+`)
	numIs    = regexp.MustCompile(`\A&#([0-9]+);`)
	hexIs    = regexp.MustCompile(`\A&#x([0-9A-Fa-f]+);`)
	entityIs = regexp.MustCompile(`\A&(` + namePattern + `);`)
)

// char is the rune of a number's digits, if that is a Char (chapter 4).
func char(digits string, base int) (rune, bool) {
	n, _ := new(big.Int).SetString(digits, base)
	for _, p := range [][2]int64{{0x9, 0xA}, {0xD, 0xD}, {0x20, 0xD7FF}, {0xE000, 0xFFFD}, {0x10000, 0x10FFFF}} {
		if n.Cmp(big.NewInt(p[0])) >= 0 && n.Cmp(big.NewInt(p[1])) <= 0 {
			return rune(n.Int64()), true
		}
	}
	return 0, false
}

// number is the rune that a Num at the beginning of s means, how long the Num is (0: there is none), and whether it means one.
func number(s string) (rune, int, bool) {
	base, m := 10, numIs.FindStringSubmatch(s)
	if m == nil {
		base, m = 16, hexIs.FindStringSubmatch(s)
	}
	if m == nil {
		return 0, 0, false
	}
	r, ok := char(m[1], base)
	return r, len(m[0]), ok
}

// first is the piece at the beginning of s, by the patterns; s begins at a place.
func first(s string, at int) refs.Piece {
	if m := plainIs.FindString(s); m != "" {
		return refs.Piece{Kind: refs.Plain, From: at, To: at + len(m)}
	}
	if r, n, ok := number(s); ok {
		return refs.Piece{Kind: refs.Char, From: at, To: at + n, R: r}
	} else if n > 0 {
		return refs.Piece{Kind: refs.Wrong, From: at, To: at + n}
	}
	if m := entityIs.FindStringSubmatch(s); m != nil {
		return refs.Piece{Kind: refs.Entity, From: at, To: at + len(m[0]), Name: string(rows.Of(m[1]))}
	}
	return refs.Piece{Kind: refs.Wrong, From: at, To: at + 1}
}

// pieces are those of s, by the patterns.
func pieces(s string) []refs.Piece {
	var l []refs.Piece
	for at := 0; at < len(s); at = l[len(l)-1].To {
		l = append(l, first(s[at:], at))
	}
	return l
}

// known are the names that mean a rune.
var known = map[string]rune{"lt": '<', "gt": '>', "amp": '&', "apos": '\'', "quot": '"'}

// plainly is what s says, by the patterns, and whether it can be read on its own.
func plainly(s string) ([]rune, bool) {
	var said []rune
	for _, p := range pieces(s) {
		switch {
		case p.Kind == refs.Plain:
			said = append(said, rows.Of(s[p.From:p.To])...)
		case p.Kind == refs.Char:
			said = append(said, p.R)
		case p.Kind == refs.Entity && known[p.Name] != 0:
			said = append(said, known[p.Name])
		default:
			return nil, false
		}
	}
	return said, true
}

// The references that are put, as replacements of texts.
var (
	inText   = strings.NewReplacer("&", "&amp;", "<", "&lt;", "]]>", "]]&gt;", "\r", "&#xD;")
	inDouble = strings.NewReplacer("&", "&amp;", "<", "&lt;", "]]>", "]]&gt;", "\r", "&#xD;", "\"", "&quot;", "\t", "&#x9;", "\n", "&#xA;")
	inSingle = strings.NewReplacer("&", "&amp;", "<", "&lt;", "]]>", "]]&gt;", "\r", "&#xD;", "'", "&apos;", "\t", "&#x9;", "\n", "&#xA;")
	lineEnds = strings.NewReplacer("\r\n", "\n", "\r", "\n")
)

// replacer is that of a quote.
func replacer(quote rune) *strings.Replacer {
	switch quote {
	case '"':
		return inDouble
	case '\'':
		return inSingle
	}
	return inText
}

// quotes are the two, and runes that are none.
var quotes = []rune{'"', '\'', 0, api.Bad, '`', '&', '<', '\t', '\r', math.MinInt32, math.MaxInt32}

// agree holds all that is told of s against the patterns and replacements.
func agree(t *testing.T, s string) {
	t.Helper()
	l := rows.Of(s)
	if got, want := refs.Pieces(l), pieces(s); !slices.Equal(got, want) {
		t.Fatalf("Pieces(%q) = %v, want %v", s, got, want)
	}
	want, n, is := number(s)
	is = is && n == len(s)
	if !is {
		want = 0
	}
	if got, ok := refs.Number(l); got != want || ok != is {
		t.Fatalf("Number(%q) = %x, %v, want %x, %v", s, got, ok, want, is)
	}
	said, is := plainly(s)
	if got, ok := refs.Plainly(l); ok != is || !slices.Equal(got, said) {
		t.Fatalf("Plainly(%q) = %q, %v, want %q, %v", s, string(got), ok, string(said), is)
	}
	if got, want := refs.Lines(l), rows.Of(lineEnds.Replace(s)); !slices.Equal(got, want) {
		t.Fatalf("Lines(%q) = %q, want %q", s, string(got), string(want))
	}
	for _, quote := range quotes[:4] {
		put := refs.Put(l, quote)
		if want := rows.Of(replacer(quote).Replace(s)); !slices.Equal(put, want) {
			t.Fatalf("Put(%q, %q) = %q, want %q", s, quote, string(put), string(want))
		}
		back(t, l, quote)
	}
}

// back holds what is put, and read plainly then, against the row.
func back(t *testing.T, l []rune, quote rune) {
	t.Helper()
	put := refs.Put(l, quote)
	if got, ok := refs.Plainly(put); !ok || !slices.Equal(got, l) {
		t.Fatalf("Plainly of Put(%x, %q), which is %q, is %x, %v", l, quote, string(put), got, ok)
	}
}

// P14.1 to P14.3: all short rows of signs.
func TestRowsOfSigns(t *testing.T) {
	signs := strings.Split("& # x X 0 4 1 9 a F g ; < > ] ' \" - : \x01 \x02 \x03 \x04 \r \n \t", " ")
	signs = append(signs, " ")
	rows.All(3, signs, func(s string) {
		agree(t, s)
		agree(t, "&"+s+";")
		agree(t, "&#"+s+";")
		agree(t, "&#x"+s+";")
		agree(t, "]]"+s)
	})
}

// P14.1 to P14.3: pieces of each kind, and what is nearly one, in every order.
func TestRowsOfPieces(t *testing.T) {
	rows.All(4, []string{
		"&", "&#", "&#x", ";", "&lt;", "&amp", "&e;", "&\x02\x03;", "&#65;", "&#x1F600;", "&#0;", "&#xD800;", "&#x110000;", "a", "1", "<",
	}, func(s string) { agree(t, s) })
}

// P14.2: ends of lines, and what ends a marked section, in every order.
func TestRowsOfLines(t *testing.T) {
	rows.All(6, []string{"\r", "\n", "]", ">", "a"}, func(s string) { agree(t, s) })
}

// P14.1: the kinds are these numbers.
func TestKinds(t *testing.T) {
	for i, kind := range []int{refs.Plain, refs.Char, refs.Entity, refs.Wrong} {
		if kind != i+1 {
			t.Errorf("kind %d is %d", i+1, kind)
		}
	}
}

// told tells pieces by their kinds' letters, their runes, and what they mean.
func told(s string, l []refs.Piece) string {
	var told []string
	for _, p := range l {
		piece := "?PCEW"[p.Kind:p.Kind+1] + s[p.From:p.To]
		if p.R != 0 {
			piece += "=" + strconv.FormatInt(int64(p.R), 16)
		}
		if p.Name != "" {
			piece += "=" + p.Name
		}
		told = append(told, piece)
	}
	return strings.Join(told, "|")
}

// P14.1
func TestPiecesOfSome(t *testing.T) {
	for _, c := range []struct{ s, want string }{
		{"", ""},
		{"a&lt;&#65;&x", "Pa|E&lt;=lt|C&#65;=41|W&|Px"}, // the chapter's example
		{"a", "Pa"},
		{"&", "W&"},
		{"a&", "Pa|W&"},
		{"&&", "W&|W&"},
		{"&&lt;", "W&|E&lt;=lt"},
		{"&lt;&", "E&lt;=lt|W&"},
		{"&lt;&gt;", "E&lt;=lt|E&gt;=gt"},
		{"&<", "W&|P<"},
		{"<&", "P<|W&"},
		{"<&e;>", "P<|E&e;=e|P>"},
		{"<a b='&e;'>", "P<a b='|E&e;=e|P'>"},
		{"<!--&e;-->", "P<!--|E&e;=e|P-->"},
		{"<![CDATA[&e;]]>", "P<![CDATA[|E&e;=e|P]]>"},
		{"&;", "W&|P;"},
		{"&#", "W&|P#"},
		{"&#;", "W&|P#;"},
		{"&#x", "W&|P#x"},
		{"&#x;", "W&|P#x;"},
		{"&#a;", "W&|P#a;"},
		{"&#xg;", "W&|P#xg;"},
		{"&#X41;", "W&|P#X41;"},
		{"&# 65;", "W&|P# 65;"},
		{"&#65 ;", "W&|P#65 ;"},
		{"&#-65;", "W&|P#-65;"},
		{"&#+65;", "W&|P#+65;"},
		{"&#6_5;", "W&|P#6_5;"},
		{"&#65", "W&|P#65"},
		{"&#65&#66;", "W&|P#65|C&#66;=42"},
		{"&#x41", "W&|P#x41"},
		{"&#x41<", "W&|P#x41<"},
		{"&#4a;", "W&|P#4a;"},
		{"&#x4a;&#x4A;&#x6d;&#x6D;", "C&#x4a;=4a|C&#x4A;=4a|C&#x6d;=6d|C&#x6D;=6d"},
		{"&#xabcde;&#xABCDE;&#xaBcDe;", "C&#xabcde;=abcde|C&#xABCDE;=abcde|C&#xaBcDe;=abcde"},
		{"&#0065;&#x00041;", "C&#0065;=41|C&#x00041;=41"},
		{"&#10;&#x10;", "C&#10;=a|W&#x10;"},
		{"&#0;", "W&#0;"},
		{"&#x0;", "W&#x0;"},
		{"&#000;", "W&#000;"},
		{"&#8;&#9;&#10;&#11;", "W&#8;|C&#9;=9|C&#10;=a|W&#11;"},
		{"&#xC;&#xD;&#xE;", "W&#xC;|C&#xD;=d|W&#xE;"},
		{"&#31;&#32;", "W&#31;|C&#32;=20"},
		{"&#38;&#60;", "C&#38;=26|C&#60;=3c"},
		{"&#xD7FF;&#xD800;&#xDBFF;&#xDC00;&#xDFFF;&#xE000;", "C&#xD7FF;=d7ff|W&#xD800;|W&#xDBFF;|W&#xDC00;|W&#xDFFF;|C&#xE000;=e000"},
		{"&#55295;&#55296;&#57343;&#57344;", "C&#55295;=d7ff|W&#55296;|W&#57343;|C&#57344;=e000"},
		{"&#xFFFD;&#xFFFE;&#xFFFF;&#x10000;", "C&#xFFFD;=fffd|W&#xFFFE;|W&#xFFFF;|C&#x10000;=10000"},
		{"&#65533;&#65534;&#65535;&#65536;", "C&#65533;=fffd|W&#65534;|W&#65535;|C&#65536;=10000"},
		{"&#x10FFFF;&#x110000;", "C&#x10FFFF;=10ffff|W&#x110000;"},
		{"&#1114111;&#1114112;", "C&#1114111;=10ffff|W&#1114112;"},
		// What would be a rune, if numbers of 32 or 64 bits wrapped round.
		{"&#x100000041;&#4294967361;", "W&#x100000041;|W&#4294967361;"},
		{"&#x10000000000000041;&#18446744073709551681;", "W&#x10000000000000041;|W&#18446744073709551681;"},
		{"&#xFFFFFFFF;&#xFFFFFFFFFFFFFFFF;", "W&#xFFFFFFFF;|W&#xFFFFFFFFFFFFFFFF;"},
		{"&lt", "W&|Plt"},
		{"&lt ;", "W&|Plt ;"},
		{"&lt&gt;", "W&|Plt|E&gt;=gt"},
		{"& lt;", "W&|P lt;"},
		{"&1a;", "W&|P1a;"},
		{"&-a;", "W&|P-a;"},
		{"&a1.-_:b;", "E&a1.-_:b;=a1.-_:b"},
		{"&:;", "E&:;=:"},
		{"&LT;", "E&LT;=LT"},
		{"&\x02\x03\x02;", "E&\x02\x03\x02;=é·é"},
		{"&\x03;", "W&|P\x03;"},
		{"&\x02\x04;", "W&|P\x02\x04;"},
		{"&a\x01;", "W&|Pa\x01;"},
		{"\x01a\x01", "P\x01a\x01"},
		{"\x01&e;\x01", "P\x01|E&e;=e|P\x01"},
		{"&\x01", "W&|P\x01"},
		{"&e;;", "E&e;=e|P;"},
		{"%e;", "P%e;"},
	} {
		if got := told(c.s, refs.Pieces(rows.Of(c.s))); got != c.want {
			t.Errorf("Pieces(%q) is %q, want %q", c.s, got, c.want)
		}
	}
}

// P14.1: names of runes of each width, by UTF-8.
func TestEntityNames(t *testing.T) {
	for _, name := range []string{"e", "é", "Ж9", "猫-1", "\U00010000", "a\U000EFFFF", "\uFFFD", "x:\u0300"} {
		l := []rune("&" + name + ";")
		want := refs.Piece{Kind: refs.Entity, To: len(l), Name: name}
		if got := refs.Pieces(l); !slices.Equal(got, []refs.Piece{want}) {
			t.Errorf("Pieces(%q) = %v", string(l), got)
		}
	}
	for _, r := range []rune{'×', '\uFFFE', '\U000F0000', api.Bad, 0xD800, 0x110000, math.MinInt32, math.MaxInt32} {
		l := []rune{'&', 'e', r, ';'}
		want := []refs.Piece{{Kind: refs.Wrong, To: 1}, {Kind: refs.Plain, From: 1, To: 4}}
		if got := refs.Pieces(l); !slices.Equal(got, want) {
			t.Errorf("Pieces(%x) = %v", l, got)
		}
	}
}

// P14.1: each number up to above the last rune, in both bases; it is read as a piece, and on its own.
func TestNumbers(t *testing.T) {
	for n := int64(0); n <= 0x110010; n++ {
		for _, s := range []string{"&#" + strconv.FormatInt(n, 10) + ";", "&#x" + strconv.FormatInt(n, 16) + ";"} {
			is := n == 9 || n == 0xA || n == 0xD || n >= 0x20 && n < 0xD800 || n >= 0xE000 && n <= 0xFFFD || n >= 0x10000 && n <= 0x10FFFF
			want := refs.Piece{Kind: refs.Wrong, To: len(s)}
			if is {
				want.Kind, want.R = refs.Char, rune(n)
			}
			l := []rune(s)
			if got, ok := refs.Number(l); got != want.R || ok != is {
				t.Fatalf("Number(%s) = %x, %v", s, got, ok)
			}
			if got := refs.Pieces(l); len(got) != 1 || got[0] != want {
				t.Fatalf("Pieces(%s) = %v", s, got)
			}
		}
	}
}

// P14.1: very many digits: with zeros ahead it is a rune, else none.
func TestManyDigits(t *testing.T) {
	for _, many := range []int{1, 2, 7, 8, 9, 16, 17, 20, 100, api.MaxBytes} {
		zeros, nines, ones := strings.Repeat("0", many), strings.Repeat("9", many), strings.Repeat("1", many)
		for _, c := range []struct {
			s    string
			want rune
		}{
			{"&#" + zeros + "65;", 'A'},
			{"&#x" + zeros + "41;", 'A'},
			{"&#x" + zeros + "10FFFF;", 0x10FFFF},
			{"&#" + zeros + ";", 0},
			{"&#x" + zeros + ";", 0},
			{"&#12345678" + nines + ";", 0},
			{"&#x12345678" + nines + ";", 0},
			{"&#9999999" + zeros + ";", 0},
			{"&#xFFFFFF" + zeros + ";", 0},
			{"&#x1000000" + ones + ";", 0},
		} {
			if got, ok := refs.Number([]rune(c.s)); got != c.want || ok != (c.want != 0) {
				t.Errorf("Number of %.20s.. (%d runes) is %x, %v, want %x", c.s, len(c.s), got, ok, c.want)
			}
			if got := refs.Pieces([]rune(c.s)); len(got) != 1 || got[0].R != c.want {
				t.Errorf("Pieces of %.20s.. (%d runes) are %v", c.s, len(c.s), got)
			}
		}
	}
}

// P14.1: all of the runes must be the Num.
func TestNumberOfSome(t *testing.T) {
	for _, c := range []struct {
		s    string
		want rune
	}{
		{"&#65;", 'A'},
		{"&#x41;", 'A'},
		{"&#x1f600;", 0x1F600},
		{"&#9;", '\t'},
		{"", 0},
		{"&", 0},
		{"A", 0},
		{"65", 0},
		{"#65;", 0},
		{"&#65", 0},
		{"&65;", 0},
		{"&#;", 0},
		{"&#x;", 0},
		{"&#X41;", 0},
		{"&#0;", 0},
		{"&#xFFFF;", 0},
		{"&#xDFFF;", 0},
		{" &#65;", 0},
		{"a&#65;", 0},
		{"&&#65;", 0},
		{"&#65;&#65;", 0},
		{"&#66;&#65;", 0},
		{"&#65; ", 0},
		{"&#65;;", 0},
		{"&#65;a", 0},
		{"&#65;\x01", 0},
		{"\x01&#65;", 0},
		{"&lt;", 0},
		{"&x41;", 0},
		{"<a>", 0},
		{"<a/>", 0},
		{"</#65;>", 0},
	} {
		if got, ok := refs.Number(rows.Of(c.s)); got != c.want || ok != (c.want != 0) {
			t.Errorf("Number(%q) = %x, %v, want %x", c.s, got, ok, c.want)
		}
	}
}

// P14.1
func TestKnown(t *testing.T) {
	for name, want := range known {
		if got, ok := refs.Known(name); got != want || !ok {
			t.Errorf("Known(%q) = %q, %v", name, got, ok)
		}
	}
	for _, name := range []string{
		"", "LT", "Lt", "GT", "AMP", "Amp", "APOS", "QUOT", "lt;", "&lt;", "&lt", " lt", "lt ", "l", "t", "ltt", "am", "amps", "apo", "quo", "quote",
		"nbsp", "a:lt", "<", ">", "&", "'", "\"", "\xFF", "lt\xFF", "lt\x00", "ｌｔ",
	} {
		if got, ok := refs.Known(name); got != 0 || ok {
			t.Errorf("Known(%q) = %q, %v", name, got, ok)
		}
	}
}

// P14.2: by each quote, and by runes that are none.
func TestPutOfSome(t *testing.T) {
	for _, c := range []struct{ s, text, double, single string }{
		{"", "", "", ""},
		{"a<b", "a&lt;b", "a&lt;b", "a&lt;b"}, // the chapter's example
		{"&", "&amp;", "&amp;", "&amp;"},
		{"&lt;", "&amp;lt;", "&amp;lt;", "&amp;lt;"},
		{"&&<<", "&amp;&amp;&lt;&lt;", "&amp;&amp;&lt;&lt;", "&amp;&amp;&lt;&lt;"},
		{">", ">", ">", ">"},
		{">>", ">>", ">>", ">>"},
		{"]>", "]>", "]>", "]>"},
		{"]]>", "]]&gt;", "]]&gt;", "]]&gt;"},
		{"]]]>", "]]]&gt;", "]]]&gt;", "]]]&gt;"},
		{"]]>>", "]]&gt;>", "]]&gt;>", "]]&gt;>"},
		{"]]>]]>]>", "]]&gt;]]&gt;]>", "]]&gt;]]&gt;]>", "]]&gt;]]&gt;]>"},
		{"]]a>", "]]a>", "]]a>", "]]a>"},
		{"]a]>", "]a]>", "]a]>", "]a]>"},
		{"]>]>", "]>]>", "]>]>", "]>]>"},
		{"]]\r>", "]]&#xD;>", "]]&#xD;>", "]]&#xD;>"},
		{"<]]>", "&lt;]]&gt;", "&lt;]]&gt;", "&lt;]]&gt;"},
		{"]]", "]]", "]]", "]]"},
		{"a\rb", "a&#xD;b", "a&#xD;b", "a&#xD;b"},
		{"\r\n", "&#xD;\n", "&#xD;&#xA;", "&#xD;&#xA;"},
		{"\r\r", "&#xD;&#xD;", "&#xD;&#xD;", "&#xD;&#xD;"},
		{"\t", "\t", "&#x9;", "&#x9;"},
		{"\n", "\n", "&#xA;", "&#xA;"},
		{" a  b ", " a  b ", " a  b ", " a  b "},
		{"\"", "\"", "&quot;", "\""},
		{"'", "'", "'", "&apos;"},
		{"\"'\"", "\"'\"", "&quot;'&quot;", "\"&apos;\""},
		{"\x01\x02\x03\x04\x00\v\f", "\x01\x02\x03\x04\x00\v\f", "\x01\x02\x03\x04\x00\v\f", "\x01\x02\x03\x04\x00\v\f"},
		{"%a;", "%a;", "%a;", "%a;"},
		{"-- ?> /> `", "-- ?> /> `", "-- ?> /> `", "-- ?> /> `"},
	} {
		l := rows.Of(c.s)
		for _, quote := range quotes {
			want := c.text
			switch quote {
			case '"':
				want = c.double
			case '\'':
				want = c.single
			}
			if got := refs.Put(l, quote); !slices.Equal(got, rows.Of(want)) {
				t.Errorf("Put(%q, %q) is %q, want %q", c.s, quote, string(got), want)
			}
			back(t, l, quote)
		}
	}
}

// P14.2, P14.3: each rune, and numbers that are none, with each quote; also as the quote.
func TestPutOfEachRune(t *testing.T) {
	l := make([]rune, 0, 0x110400)
	for r := rune(-500); r <= 0x110100; r++ {
		l = append(l, r)
	}
	l = append(l, math.MinInt32, math.MaxInt32)
	for _, quote := range quotes {
		back(t, l, quote)
		changed := 0
		for _, r := range l {
			put := refs.Put([]rune{r}, quote)
			if slices.Equal(put, []rune{r}) {
				continue
			}
			changed++
			if got, ok := refs.Plainly(put); !ok || !slices.Equal(got, []rune{r}) {
				t.Errorf("Plainly of Put(%x, %q) is %x, %v", r, quote, got, ok)
			}
		}
		want := 3 // & < and the carriage return
		if quote == '"' || quote == '\'' {
			want = 6
		}
		if changed != want {
			t.Errorf("with %q %d runes stand by a reference, not %d", quote, changed, want)
		}
	}
	for _, r := range l {
		if got := string(refs.Put([]rune("'\"\t\n"), r)); r != '"' && r != '\'' && got != "'\"\t\n" {
			t.Fatalf("with %x as the quote %q is put", r, got)
		}
	}
}

// P14.2
func TestPlainlyOfSome(t *testing.T) {
	for _, c := range []struct {
		s, want string
		ok      bool
	}{
		{"", "", true},
		{"a", "a", true},
		{"<a b='c'>", "<a b='c'>", true},
		{"&lt;&gt;&amp;&apos;&quot;", "<>&'\"", true},
		{"&#65;&#x42;&#67;", "ABC", true},
		{"a&lt;b&#65;c", "a<bAc", true},
		{"&amp;lt;", "&lt;", true},
		{"&amp;#65;", "&#65;", true},
		{"&#38;lt;", "&lt;", true},
		{"&amp;amp;amp;", "&amp;amp;", true},
		{"&#xD;&#10;\r\n", "\r\n\r\n", true},
		{"\x01\x02\x03\x04", "\x01\x02\x03\x04", true},
		{"&e;", "", false},
		{"&LT;", "", false},
		{"&nbsp;", "", false},
		{"a&lt;b&e;c&lt;", "", false},
		{"&\x02;", "", false},
		{"&", "", false},
		{"a&b", "", false},
		{"a&b;", "", false},
		{"a & b", "", false},
		{"&lt;&#0;&lt;", "", false},
		{"&#xFFFE;", "", false},
		{"&#65", "", false},
		{"&;", "", false},
		{"&lt", "", false},
		{"abc&lt;def&", "", false},
	} {
		got, ok := refs.Plainly(rows.Of(c.s))
		if ok != c.ok || !slices.Equal(got, rows.Of(c.want)) {
			t.Errorf("Plainly(%q) is %q, %v, want %q, %v", c.s, string(got), ok, c.want, c.ok)
		}
	}
}

// P14.2
func TestLinesOfSome(t *testing.T) {
	for _, c := range []struct{ s, want string }{
		{"", ""},
		{"a", "a"},
		{"\n", "\n"},
		{"\r", "\n"},
		{"\r\n", "\n"},
		{"\n\r", "\n\n"},
		{"\r\r", "\n\n"},
		{"\n\n", "\n\n"},
		{"\r\n\r\n", "\n\n"},
		{"\r\r\n", "\n\n"},
		{"\r\n\n", "\n\n"},
		{"\r\n\r", "\n\n"},
		{"\n\r\n", "\n\n"},
		{"a\rb\nc\r\nd", "a\nb\nc\nd"},
		{"a\r", "a\n"},
		{"a\r\n", "a\n"},
		{"\ra", "\na"},
		{"\r\t\n", "\n\t\n"},
		{"\t \v\f", "\t \v\f"},
		{"&#xD;&#xA;", "&#xD;&#xA;"},
		{"\x01\r\x01", "\x01\n\x01"},
	} {
		if got := refs.Lines(rows.Of(c.s)); !slices.Equal(got, rows.Of(c.want)) {
			t.Errorf("Lines(%q) is %q, want %q", c.s, string(got), c.want)
		}
	}
	// These end lines elsewhere, not here.
	others := []rune{0x85, 0x2028, 0x2029, api.Bad, 0, 0xD800, 0x110000, math.MinInt32, math.MaxInt32}
	if got := refs.Lines(others); !slices.Equal(got, others) {
		t.Errorf("Lines(%x) is %x", others, got)
	}
}

// P14.3: the pieces lie one behind the other, none is empty, and all runes are in them.
func TestPiecesHaveAllRunes(t *testing.T) {
	rows.All(5, []string{"&", "#", "x", "1", ";", "<", "a", "\x01"}, func(s string) {
		at := 0
		for _, p := range refs.Pieces(rows.Of(s)) {
			if p.From != at || p.To <= p.From {
				t.Fatalf("Pieces(%q): one is from %d up to %d, behind %d", s, p.From, p.To, at)
			}
			at = p.To
		}
		if at != len(s) {
			t.Fatalf("Pieces(%q) end at %d", s, at)
		}
	})
}

// Of no runes nothing stands for something else.
func TestNoRunes(t *testing.T) {
	for _, l := range [][]rune{nil, {}} {
		if len(refs.Pieces(l)) != 0 || len(refs.Put(l, '"')) != 0 || len(refs.Lines(l)) != 0 {
			t.Error("of no runes there are some")
		}
		if r, ok := refs.Number(l); r != 0 || ok {
			t.Error("no runes are a number")
		}
		if got, ok := refs.Plainly(l); len(got) != 0 || !ok {
			t.Errorf("Plainly of no runes is %x, %v", got, ok)
		}
	}
}

// P1: long rows end, too, and those that are as long as a document may be.
func TestLongRows(t *testing.T) {
	for _, part := range []string{
		"&", "&#", "&#x", "&#1", "&#x1", "&#1;", "&a", "&a;", "&lt;", "&#0;", "a", ";", "<", "<!--", "<![CDATA[", "'", "]", "]]>", "\r", "\r\n", "\n", "\x01",
	} {
		for _, ahead := range []string{"", "&", "&#", "&#x", "&a", "<", "<!--"} {
			long(t, ahead, part, 1<<16)
		}
	}
	for _, part := range []string{"&", "&#x1", "&a;", "&#1;", "a", "]]>\r\n"} {
		long(t, "", part, api.MaxBytes)
	}
}

// long asks all that is told of a part, so often that it has some n bytes, behind something else.
func long(t *testing.T, ahead, part string, n int) {
	t.Helper()
	l := rows.Of(ahead + strings.Repeat(part, n/len(part)))
	p := refs.Pieces(l)
	if p[len(p)-1].To != len(l) {
		t.Errorf("pieces of %q and many %q end at %d", ahead, part, p[len(p)-1].To)
	}
	back(t, l, '"')
	refs.Number(l)
	refs.Plainly(l)
	if got := len(refs.Lines(l)); got > len(l) || !strings.Contains(part, "\r\n") && got != len(l) {
		t.Errorf("lines of %q and many %q have %d runes", ahead, part, got)
	}
}

// The rules that hold everywhere, 4 and 5: a row that is handed in is neither changed nor kept, and what is written into an answer is seen by no later one.
func TestAnswersAreNew(t *testing.T) {
	for _, s := range []string{"abc", "a\r\nb<&e;]]>'\"", "&lt;&#65;\t"} {
		l := append(rows.Of(s), rows.Of("behind")...)[:len(s)]
		was := slices.Clone(l[:cap(l)])
		wantPlainly, _ := plainly(s)
		for range 2 {
			p, put, lines := refs.Pieces(l), refs.Put(l, '\''), refs.Lines(l)
			said, _ := refs.Plainly(l)
			if !slices.Equal(p, pieces(s)) || !slices.Equal(put, rows.Of(inSingle.Replace(s))) ||
				!slices.Equal(lines, rows.Of(lineEnds.Replace(s))) || !slices.Equal(said, wantPlainly) {
				t.Fatalf("%q: %v, %q, %q, %q", s, p, string(put), string(lines), string(said))
			}
			clear(p[:cap(p)])
			for _, answer := range [][]rune{put, lines, said} {
				clear(answer[:cap(answer)])
				_ = append(answer, 'x')
			}
			if !slices.Equal(l[:cap(l)], was) {
				t.Fatalf("%q is %q now", string(was), string(l[:cap(l)]))
			}
		}
		p := refs.Pieces(l)
		clear(l)
		if !slices.Equal(p, pieces(s)) {
			t.Errorf("pieces of %q are %v, when the row is other runes", s, p)
		}
	}
}

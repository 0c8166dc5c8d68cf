package decl_test

import (
	"math"
	"regexp"
	"slices"
	"strconv"
	"strings"
	"testing"

	"rubric/api"
	"rubric/decl"
	"rubric/rows"
)

// What the chapter says, as patterns of texts whose bytes stand for runes.
const (
	sp     = `[ \t\r\n]+`
	sp0    = `[ \t\r\n]*`
	name   = `[A-Za-z_:\x02][A-Za-z_:\x02\x03.0-9-]*`
	plain  = `[A-Za-z_\x02][A-Za-z_\x02\x03.0-9-]*`
	token  = `[A-Za-z_:\x02\x03.0-9-]+`
	quoted = `"[^"]*"|'[^']*'`
	public = `"[- \r\na-zA-Z0-9'()+,./:=?;!*#@$_%]*"|'[- \r\na-zA-Z0-9()+,./:=?;!*#@$_%]*'`

	outside = `SYSTEM` + sp + `(` + quoted + `)|PUBLIC` + sp + `(` + public + `)` + sp + `(` + quoted + `)`
	words   = sp0 + `\|` + sp0
)

var (
	notChar    = regexp.MustCompile(`[\x00\x01\x05-\x08\x0B\x0C\x0E-\x1F]`)
	entityIs   = regexp.MustCompile(`\A<!ENTITY` + sp + `(` + plain + `)` + sp + `(?:(` + quoted + `)|(?:` + outside + `)(?:` + sp + `NDATA` + sp + `(` + plain + `))?)` + sp0 + `>\z`)
	paramIs    = regexp.MustCompile(`\A<!ENTITY` + sp + `%` + sp + `(` + plain + `)` + sp + `(?:(` + quoted + `)|(?:` + outside + `))()` + sp0 + `>\z`)
	notationIs = regexp.MustCompile(`\A<!NOTATION` + sp + `(` + plain + `)` + sp + `(?:` + outside + `|PUBLIC` + sp + `(` + public + `))` + sp0 + `>\z`)
	elementIs  = regexp.MustCompile(`(?s)\A<!ELEMENT` + sp + `(` + name + `)` + sp + `([^ \t\r\n>].*?)` + sp0 + `>\z`)
	attListIs  = regexp.MustCompile(`\A<!ATTLIST` + sp + `(` + name + `)((?:` + att + `)*)` + sp0 + `>\z`)
	attIs      = regexp.MustCompile(`\A` + att)
)

// att is an attribute: its name, its type, a list of notations, a list of pieces, its default, and a value that is fixed or given.
const att = sp + `(` + name + `)` + sp +
	`(?:(CDATA|ID|IDREF|IDREFS|ENTITY|ENTITIES|NMTOKEN|NMTOKENS)|NOTATION` + sp + `\(` + sp0 + `(` + plain + `(?:` + words + plain + `)*)` + sp0 + `\)` +
	`|\(` + sp0 + `(` + token + `(?:` + words + token + `)*)` + sp0 + `\))` + sp +
	`(?:(#REQUIRED|#IMPLIED)|#FIXED` + sp + `(` + quoted + `)|(` + quoted + `))`

// What a content's parts are, where each group that stands in it has been taken as one byte, 6.
var (
	mixedIs   = regexp.MustCompile(`\A(?:EMPTY|ANY|\(` + sp0 + `#PCDATA` + sp0 + `\)\*?|\(` + sp0 + `#PCDATA(?:` + words + name + `)+` + sp0 + `\)\*)\z`)
	innermost = regexp.MustCompile(`\(` + sp0 + item + `(?:(?:` + words + item + `)*|(?:` + sp0 + `,` + sp0 + item + `)*)` + sp0 + `\)`)
	oneGroup  = regexp.MustCompile(`\A\x06[?*+]?\z`)
)

const item = `(?:` + name + `|\x06)[?*+]?`

// content is whether s is a content: one by a pattern, or one whose groups can be taken, from within, in no more than 64 rounds.
func content(s string) bool {
	if mixedIs.MatchString(s) {
		return true
	}
	if strings.Contains(s, "\x06") || notChar.MatchString(s) {
		return false
	}
	for deep := 0; deep < 64 && strings.Contains(s, "("); deep++ {
		taken := innermost.ReplaceAllString(s, "\x06")
		if taken == s {
			return false
		}
		s = taken
	}
	return oneGroup.MatchString(s)
}

var (
	lineEnds  = strings.NewReplacer("\r\n", "\n", "\r", "\n")
	blanks    = strings.NewReplacer(" ", "", "\t", "", "\r", "", "\n", "")
	reference = regexp.MustCompile(`&(?:#([0-9]+)|#x([0-9A-Fa-f]+)|` + name + `);`)
)

// number is the rune of a number's digits, if it is a Char.
func number(digits string, base int) (rune, bool) {
	n, err := strconv.ParseInt(digits, base, 64)
	if err != nil {
		return 0, false
	}
	for _, p := range [][2]int64{{0x9, 0xA}, {0xD, 0xD}, {0x20, 0xD7FF}, {0xE000, 0xFFFD}, {0x10000, 0x10FFFF}} {
		if n >= p[0] && n <= p[1] {
			return rune(n), true
		}
	}
	return 0, false
}

// said is what s stands for, each reference by number the rune that it means, and whether each & begins a reference.
func said(s string) ([]rune, bool) {
	var l []rune
	for s != "" {
		at := reference.FindStringSubmatchIndex(s)
		switch {
		case s[0] != '&':
			l = append(l, rows.Of(s[:1])...)
			s = s[1:]
			continue
		case at == nil || at[0] != 0:
			return nil, false
		case at[2] < 0 && at[4] < 0:
			l = append(l, rows.Of(s[:at[1]])...)
		default:
			digits, base := "", 10
			if at[2] >= 0 {
				digits = s[at[2]:at[3]]
			} else {
				digits, base = s[at[4]:at[5]], 16
			}
			r, ok := number(digits, base)
			if !ok {
				return nil, false
			}
			l = append(l, r)
		}
		s = s[at[1]:]
	}
	return l, true
}

// literal is what s stands for as an entity's value, and whether it may be one.
func literal(s string) ([]rune, bool) {
	if strings.Contains(s, "%") || notChar.MatchString(s) {
		return nil, false
	}
	return said(s)
}

// in is what stands in quotes, each end of a line as one line feed; nothing of nothing.
func in(q string) string {
	if q == "" {
		return ""
	}
	return lineEnds.Replace(q[1 : len(q)-1])
}

// text is s by UTF-8.
func text(s string) string { return string(rows.Of(s)) }

// want is what s declares, by the patterns.
func want(s string) (decl.Decl, bool) {
	if notChar.MatchString(s) {
		return decl.Decl{}, false
	}
	if m := entityIs.FindStringSubmatch(s); m != nil {
		return entity(decl.Entity, m)
	}
	if m := paramIs.FindStringSubmatch(s); m != nil {
		return entity(decl.Param, m)
	}
	if m := attListIs.FindStringSubmatch(s); m != nil {
		return attList(m)
	}
	if m := elementIs.FindStringSubmatch(s); m != nil && content(m[2]) {
		return decl.Decl{Kind: decl.Element, Name: text(m[1]), Content: text(blanks.Replace(m[2]))}, true
	}
	if m := notationIs.FindStringSubmatch(s); m != nil {
		return decl.Decl{Kind: decl.Notation, Name: text(m[1]), Outside: true, System: text(in(m[2] + m[4])), Public: text(in(m[3] + m[5]))}, true
	}
	return decl.Decl{}, false
}

// entity is what the parts of a pattern say: the name, a literal, what it names outside by SYSTEM, by PUBLIC (two), the notation.
func entity(kind int, m []string) (decl.Decl, bool) {
	d := decl.Decl{Kind: kind, Name: text(m[1])}
	if m[2] == "" {
		d.Outside, d.System, d.Public, d.Notation = true, text(in(m[3]+m[5])), text(in(m[4])), text(m[6])
		return d, true
	}
	l, ok := literal(in(m[2]))
	if !ok {
		return decl.Decl{}, false
	}
	d.Value = l
	return d, true
}

// attList is what the parts of a pattern say: the name, and all attributes.
func attList(m []string) (decl.Decl, bool) {
	d := decl.Decl{Kind: decl.AttList, Name: text(m[1])}
	for left := m[2]; left != ""; {
		a := attIs.FindStringSubmatch(left)
		left = left[len(a[0]):]
		d.Atts = append(d.Atts, attribute(a))
		value := in(a[6] + a[7])
		if _, ok := said(value); !ok || strings.Contains(value, "<") {
			return decl.Decl{}, false
		}
	}
	return d, true
}

// attribute is what the parts of att say.
func attribute(m []string) decl.Att {
	a := decl.Att{Name: text(m[1]), Type: m[2], Value: rows.Of(in(m[6] + m[7]))}
	if m[3]+m[4] != "" {
		a.Type = "ENUM"
		if m[3] != "" {
			a.Type = "NOTATION"
		}
		for _, w := range strings.Split(blanks.Replace(m[3]+m[4]), "|") {
			a.Words = append(a.Words, text(w))
		}
	}
	switch {
	case m[5] == "#REQUIRED":
		a.Default = decl.Required
	case m[5] == "#IMPLIED":
		a.Default = decl.Implied
	case m[6] != "":
		a.Default = decl.Fixed
	default:
		a.Default = decl.Given
	}
	return a
}

// same tells whether two declarations say the same; lists of nothing are the same.
func same(a, b decl.Decl) bool {
	return a.Kind == b.Kind && a.Name == b.Name && slices.Equal(a.Value, b.Value) && a.Outside == b.Outside &&
		a.Public == b.Public && a.System == b.System && a.Notation == b.Notation && a.Content == b.Content &&
		slices.EqualFunc(a.Atts, b.Atts, func(a, b decl.Att) bool {
			return a.Name == b.Name && a.Type == b.Type && slices.Equal(a.Words, b.Words) && a.Default == b.Default && slices.Equal(a.Value, b.Value)
		})
}

// agree holds what is read of s against the patterns.
func agree(t *testing.T, s string) {
	t.Helper()
	l := rows.Of(s)
	d, is := want(s)
	if got, ok := decl.Read(l, 0, len(l)); ok != is || !same(got, d) {
		t.Fatalf("Read(%q) = %+v, %v, want %+v, %v", s, got, ok, d, is)
	}
}

// agreeContent holds what is told of s as a content against the patterns.
func agreeContent(t *testing.T, s string) {
	t.Helper()
	if got, want := decl.Content(rows.Of(s)), content(s); got != want {
		t.Fatalf("Content(%q) = %v, want %v", s, got, want)
	}
}

// agreeLiteral holds what is told of s as a literal against the patterns.
func agreeLiteral(t *testing.T, s string) {
	t.Helper()
	l, is := literal(s)
	if got, ok := decl.Literal(rows.Of(s)); ok != is || !slices.Equal(got, l) {
		t.Fatalf("Literal(%q) = %q, %v, want %q, %v", s, string(got), ok, string(l), is)
	}
}

// changed calls f with what right parts are, if at each place some of them, at most m, stand away, and at most n of others stand there.
func changed(right []string, m, n int, others []string, f func(s string)) {
	for i := range len(right) + 1 {
		for j := i; j <= min(i+m, len(right)); j++ {
			rows.All(n, others, func(s string) {
				f(strings.Join(right[:i], "") + s + strings.Join(right[j:], ""))
			})
		}
	}
}

// parts are those of a right declaration: words, blanks, and signs each by itself.
func parts(s string) []string { return partIs.FindAllString(s, -1) }

var partIs = regexp.MustCompile(`<![A-Z]*|"[^"]*"|'[^']*'|#?[A-Za-z_:\x02][A-Za-z_:\x02\x03.0-9-]*|(?s:.)`)

// others are parts that may stand in the place of others.
var others = []string{
	" ", "\n", "a", "b:c", "1", "-", "%", ">", "<", "(", ")", "|", ",", "?", "*", "+", "'", `"`, "'v'", `"w"`,
	"SYSTEM", "PUBLIC", "NDATA", "NOTATION", "CDATA", "ID", "#PCDATA", "#FIXED", "#IMPLIED", "#REQUIRED", "EMPTY", "ANY",
	"\x01", "\x02", "\x03", "\x04", "\x05", "\x00", "!",
	"<!ENTITY", "<!ATTLIST", "<!ELEMENT", "<!NOTATION", "&", "&#65;", "&x;", "'&#65;&x;%'", "'&'", "'<'", "'&#0;'",
}

// right are declarations of each form.
var right = []string{
	"<!ENTITY e 'v'>",
	"<!ENTITY \x02e \"&#65;%\" \r\n>",
	"<!ENTITY e SYSTEM 's'>",
	"<!ENTITY e PUBLIC 'p' \"s\">",
	"<!ENTITY e SYSTEM 's' NDATA n>",
	"<!ENTITY e PUBLIC \"p\" 's' NDATA n >",
	"<!ENTITY % e 'v'>",
	"<!ENTITY % e SYSTEM 's'>",
	"<!ENTITY % e PUBLIC 'p' 's' >",
	"<!NOTATION n SYSTEM 's'>",
	"<!NOTATION n PUBLIC 'p'>",
	"<!NOTATION n PUBLIC 'p' 's' >",
	"<!ELEMENT a EMPTY>",
	"<!ELEMENT a ANY >",
	"<!ELEMENT a (#PCDATA)>",
	"<!ELEMENT a ( #PCDATA )* >",
	"<!ELEMENT a (#PCDATA | b)*>",
	"<!ELEMENT a (#PCDATA|b|c)*>",
	"<!ELEMENT a (b)>",
	"<!ELEMENT a (b,c?)*>",
	"<!ELEMENT a ( b | (c) )>",
	"<!ELEMENT a ((b,c)+)? >",
	"<!ATTLIST a>",
	"<!ATTLIST a b CDATA #REQUIRED>",
	"<!ATTLIST a b:c ID #IMPLIED >",
	"<!ATTLIST a b CDATA 'v'>",
	"<!ATTLIST a b CDATA #FIXED \"v\">",
	"<!ATTLIST a b (c|1) 'c'>",
	"<!ATTLIST a b NOTATION (c) #IMPLIED>",
	"<!ATTLIST a b NOTATION ( c | d ) 'c'>",
	"<!ATTLIST a b IDREF #IMPLIED c IDREFS ''>",
}

// P15.1: each right declaration, what stands at each place of it, and what does not, by the patterns.
func TestReadByPatterns(t *testing.T) {
	for _, d := range right {
		changed(parts(d), 3, 1, others, func(s string) { agree(t, s) })
	}
}

// P15.1: two others at each place, or in the place of one part, by the patterns.
func TestReadTwoByPatterns(t *testing.T) {
	for _, d := range right {
		changed(parts(d), 1, 2, others, func(s string) { agree(t, s) })
	}
}

// P15.1, P15.2: all short contents, by the patterns.
func TestContentByPatterns(t *testing.T) {
	rows.All(7, []string{"(", ")", "a", "|", ",", " ", "*"}, func(s string) { agreeContent(t, s) })
	rows.All(5, []string{"(", ")", "\x02", "|", ",", "\n", "?", "+", "#PCDATA", "EMPTY", "ANY", "\x03", "\x06"}, func(s string) { agreeContent(t, s) })
	for _, c := range []string{"(a)", "((a))", "(a|b)", "(a,b)", "( a | (b,c)* )+", "((a|b),(c,d))", "(#PCDATA)", "( #PCDATA | a )*"} {
		changed(parts(c), 3, 2, []string{"(", ")", "a", "|", ",", " ", "\t", "*", "?", "+", "#PCDATA", "EMPTY", "1", "\x01"}, func(s string) { agreeContent(t, s) })
	}
}

// P15.2: all short literals, by the patterns.
func TestLiteralByPatterns(t *testing.T) {
	rows.All(6, []string{"&", "#", "x", "6", ";", "%", "\r"}, func(s string) { agreeLiteral(t, s) })
	rows.All(4, []string{"a", "&lt;", "&#37;", "&#60;", "&#x26;", "&#0;", "&#13;", "\r", "\n", "<", "'", `"`, "\x01", "\x02", "\x05", "&"}, func(s string) { agreeLiteral(t, s) })
}

// read is what a text's runes declare.
func read(s string) (decl.Decl, bool) {
	l := []rune(s)
	return decl.Read(l, 0, len(l))
}

// reads holds what texts declare against what is wanted.
func reads(t *testing.T, table map[string]decl.Decl) {
	t.Helper()
	for s, want := range table {
		if got, ok := read(s); !ok || !same(got, want) {
			t.Errorf("Read(%q) = %+v, %v, want %+v", s, got, ok, want)
		}
	}
}

// refuses asks that texts declare nothing.
func refuses(t *testing.T, texts ...string) {
	t.Helper()
	for _, s := range texts {
		if got, ok := read(s); ok || !same(got, decl.Decl{}) {
			t.Errorf("Read(%q) = %+v, %v, want nothing, false", s, got, ok)
		}
	}
}

// P15.1: entities, by hand: the example, literals, what stands outside, notations.
func TestEntity(t *testing.T) {
	reads(t, map[string]decl.Decl{
		"<!ENTITY e '&#65;&x;'>":                       {Kind: decl.Entity, Name: "e", Value: []rune("A&x;")},
		"<!ENTITY e ''>":                               {Kind: decl.Entity, Name: "e"},
		"<!ENTITY e \"\">":                             {Kind: decl.Entity, Name: "e"},
		"<!ENTITY\t\r\n e\n\n'v'\t >":                  {Kind: decl.Entity, Name: "e", Value: []rune("v")},
		"<!ENTITY e \"it's\">":                         {Kind: decl.Entity, Name: "e", Value: []rune("it's")},
		"<!ENTITY e '\"'>":                             {Kind: decl.Entity, Name: "e", Value: []rune("\"")},
		"<!ENTITY e '<a b=\"&lt;\">&#38;#60;]]></a>'>": {Kind: decl.Entity, Name: "e", Value: []rune("<a b=\"&lt;\">&#60;]]></a>")},
		"<!ENTITY e '&#x1F600;&#x41;&#065;'>":          {Kind: decl.Entity, Name: "e", Value: []rune("\U0001F600AA")},
		"<!ENTITY e '&#37;p;'>":                        {Kind: decl.Entity, Name: "e", Value: []rune("%p;")},
		"<!ENTITY e '&nowhere:declared;'>":             {Kind: decl.Entity, Name: "e", Value: []rune("&nowhere:declared;")},
		"<!ENTITY e 'a\r\nb\rc\nd\r'>":                 {Kind: decl.Entity, Name: "e", Value: []rune("a\nb\nc\nd\n")},
		"<!ENTITY e 'a&#13;\r\n&#xD;&#10;'>":           {Kind: decl.Entity, Name: "e", Value: []rune("a\r\n\r\n")},
		"<!ENTITY \u00e9.-1\u00b7 'v'>":                {Kind: decl.Entity, Name: "\u00e9.-1\u00b7", Value: []rune("v")},
		"<!ENTITY SYSTEM 'v'>":                         {Kind: decl.Entity, Name: "SYSTEM", Value: []rune("v")},
		"<!ENTITY e SYSTEM 's'>":                       {Kind: decl.Entity, Name: "e", Outside: true, System: "s"},
		"<!ENTITY e SYSTEM ''>":                        {Kind: decl.Entity, Name: "e", Outside: true},
		"<!ENTITY e SYSTEM \"%&'<>\u00d7\r\n\">":       {Kind: decl.Entity, Name: "e", Outside: true, System: "%&'<>\u00d7\n"},
		"<!ENTITY e SYSTEM '&#65;'>":                   {Kind: decl.Entity, Name: "e", Outside: true, System: "&#65;"},
		"<!ENTITY e PUBLIC 'p' 's'>":                   {Kind: decl.Entity, Name: "e", Outside: true, Public: "p", System: "s"},
		"<!ENTITY e PUBLIC\n\"it's\"\t\r'a\"b' >":      {Kind: decl.Entity, Name: "e", Outside: true, Public: "it's", System: "a\"b"},
		"<!ENTITY e PUBLIC '' ''>":                     {Kind: decl.Entity, Name: "e", Outside: true},
		"<!ENTITY e PUBLIC \"-'()+,./:=?;!*#@$_% \r\nazAZ09\" 's'>": {
			Kind: decl.Entity, Name: "e", Outside: true, Public: "-'()+,./:=?;!*#@$_% \nazAZ09", System: "s"},
		"<!ENTITY e SYSTEM 's' NDATA n>":            {Kind: decl.Entity, Name: "e", Outside: true, System: "s", Notation: "n"},
		"<!ENTITY e PUBLIC 'p' 's'\n NDATA\t\rn\n>": {Kind: decl.Entity, Name: "e", Outside: true, Public: "p", System: "s", Notation: "n"},
		"<!ENTITY e SYSTEM 's' NDATA NDATA>":        {Kind: decl.Entity, Name: "e", Outside: true, System: "s", Notation: "NDATA"},
	})
	refuses(t,
		"", "<", "<!", "<!ENTITY", "<!ENTITY>", "<!ENTITY >", "<!ENTITY e>", "<!ENTITY e >", "<!ENTITY e 'v'", "<!ENTITY e 'v>", "<!ENTITY e v>",
		"<!ENTITYe 'v'>", "<!ENTITY e'v'>", "<!ENTITY 'v'>", "<! ENTITY e 'v'>", "<!entity e 'v'>", "<!Entity e 'v'>", " <!ENTITY e 'v'>", "<!ENTITY e 'v'> ",
		"<!ENTITY e 'v' x>", "<!ENTITY e 'v' 'w'>", "<!ENTITY e 'v'>>", "<!ENTITY e 'v\">", "<!ENTITY e 'it's'>", "<!ENTITY e \u00a0'v'>",
		"<!ENTITY a:e 'v'>", "<!ENTITY :e 'v'>", "<!ENTITY e: 'v'>", "<!ENTITY 1e 'v'>", "<!ENTITY -e 'v'>", "<!ENTITY e\u00d7 'v'>",
		"<!ENTITY e '%'>", "<!ENTITY e '%p;'>", "<!ENTITY e '&'>", "<!ENTITY e '&x'>", "<!ENTITY e '& x;'>", "<!ENTITY e '&#0;'>", "<!ENTITY e '&#xFFFE;'>",
		"<!ENTITY e '&#55296;'>", "<!ENTITY e '&#x110000;'>", "<!ENTITY e '&#;'>", "<!ENTITY e '&#X41;'>", "<!ENTITY e '\x00'>", "<!ENTITY e '\ufffe'>", "<!ENTITY e\x1f'v'>",
		"<!ENTITY e SYSTEM>", "<!ENTITY e SYSTEM >", "<!ENTITY e SYSTEM's'>", "<!ENTITY e SYSTEMx 's'>", "<!ENTITY e system 's'>", "<!ENTITY e SYSTEM 's' 's'>", "<!ENTITY e SYSTEM s>",
		"<!ENTITY e SYSTEM '\x01'>", "<!ENTITY e PUBLIC 'p'>", "<!ENTITY e PUBLIC 'p' >", "<!ENTITY e PUBLIC 'p''s'>", "<!ENTITY e PUBLIC'p' 's'>", "<!ENTITY e public 'p' 's'>",
		"<!ENTITY e PUBLIC 'p' 's' 's'>", "<!ENTITY e PUBLIC '<' 's'>", "<!ENTITY e PUBLIC '\"' 's'>", "<!ENTITY e PUBLIC '\t' 's'>", "<!ENTITY e PUBLIC '&' 's'>", "<!ENTITY e PUBLIC '\u00e9' 's'>",
		"<!ENTITY e 'v' NDATA n>", "<!ENTITY e SYSTEM 's'NDATA n>", "<!ENTITY e SYSTEM 's' NDATA>", "<!ENTITY e SYSTEM 's' NDATA >", "<!ENTITY e SYSTEM 's' NDATAn>", "<!ENTITY e SYSTEM 's' ndata n>",
		"<!ENTITY e SYSTEM 's' NDATA a:n>", "<!ENTITY e SYSTEM 's' NDATA 'n'>", "<!ENTITY e SYSTEM 's' NDATA n n>", "<!ENTITY e SYSTEM 's' n>", "<!ENTITY e NDATA n>",
	)
}

// P15.1: parameter entities, by hand: as entities, but none has a notation.
func TestParam(t *testing.T) {
	reads(t, map[string]decl.Decl{
		"<!ENTITY % p '<!ENTITY e \"x\">'>":  {Kind: decl.Param, Name: "p", Value: []rune("<!ENTITY e \"x\">")},
		"<!ENTITY\n%\tp\r''>":                {Kind: decl.Param, Name: "p"},
		"<!ENTITY % p '&#37;q;&#38;#37;\r'>": {Kind: decl.Param, Name: "p", Value: []rune("%q;&#37;\n")},
		"<!ENTITY % p SYSTEM 's'>":           {Kind: decl.Param, Name: "p", Outside: true, System: "s"},
		"<!ENTITY % p PUBLIC 'p' 's' >":      {Kind: decl.Param, Name: "p", Outside: true, Public: "p", System: "s"},
	})
	refuses(t,
		"<!ENTITY % 'v'>", "<!ENTITY %p 'v'>", "<!ENTITY% p 'v'>", "<!ENTITY%p 'v'>", "<!ENTITY % p'v'>", "<!ENTITY % % p 'v'>", "<!ENTITY % p>", "<!ENTITY p % 'v'>",
		"<!ENTITY % a:p 'v'>", "<!ENTITY % p '%q;'>", "<!ENTITY % p '&'>", "<!ENTITY % p PUBLIC 'p'>", "<!ENTITY % p SYSTEM 's' NDATA n>", "<!ENTITY % p PUBLIC 'p' 's' NDATA n>",
	)
}

// P15.1: notations, by hand: a public identifier may stand alone.
func TestNotation(t *testing.T) {
	reads(t, map[string]decl.Decl{
		"<!NOTATION n SYSTEM 's'>":             {Kind: decl.Notation, Name: "n", Outside: true, System: "s"},
		"<!NOTATION n PUBLIC 'p'>":             {Kind: decl.Notation, Name: "n", Outside: true, Public: "p"},
		"<!NOTATION n PUBLIC 'p' >":            {Kind: decl.Notation, Name: "n", Outside: true, Public: "p"},
		"<!NOTATION n PUBLIC ''>":              {Kind: decl.Notation, Name: "n", Outside: true},
		"<!NOTATION n PUBLIC \"'\"\r\n\"s\" >": {Kind: decl.Notation, Name: "n", Outside: true, Public: "'", System: "s"},
		"<!NOTATION\tPUBLIC PUBLIC 'a\rb'>":    {Kind: decl.Notation, Name: "PUBLIC", Outside: true, Public: "a\nb"},
	})
	refuses(t,
		"<!NOTATION>", "<!NOTATION n>", "<!NOTATION n 'v'>", "<!NOTATION % n SYSTEM 's'>", "<!NOTATION a:n SYSTEM 's'>", "<!NOTATIONn SYSTEM 's'>", "<!NOTATION nSYSTEM 's'>", "<!notation n SYSTEM 's'>",
		"<!NOTATION n SYSTEM>", "<!NOTATION n SYSTEM's'>", "<!NOTATION n SYSTEM 's' 's'>", "<!NOTATION n SYSTEM 's' NDATA m>", "<!NOTATION n PUBLIC>", "<!NOTATION n PUBLIC'p'>", "<!NOTATION n PUBLIC '<'>",
		"<!NOTATION n PUBLIC '\"'>", "<!NOTATION n PUBLIC 'p''s'>", "<!NOTATION n PUBLIC 'p' s>", "<!NOTATION n PUBLIC 'p' 's' 's'>", "<!NOTATION n PUBLIC '\t' 's'>", "<!NOTATION n PUBLIC 'p' NDATA m>",
	)
}

// P15.1: lists of attributes, by hand: none, many, each type, each default.
func TestAttList(t *testing.T) {
	reads(t, map[string]decl.Decl{
		"<!ATTLIST a>":          {Kind: decl.AttList, Name: "a"},
		"<!ATTLIST\n:a:b:\r\n>": {Kind: decl.AttList, Name: ":a:b:"},
		"<!ATTLIST a b CDATA #REQUIRED c:d ID #IMPLIED\nb ENTITY 'v' :x NMTOKENS\t#FIXED\r\"it's\" >": {Kind: decl.AttList, Name: "a", Atts: []decl.Att{
			{Name: "b", Type: "CDATA", Default: decl.Required}, {Name: "c:d", Type: "ID", Default: decl.Implied},
			{Name: "b", Type: "ENTITY", Default: decl.Given, Value: []rune("v")}, {Name: ":x", Type: "NMTOKENS", Default: decl.Fixed, Value: []rune("it's")},
		}},
		"<!ATTLIST a b (c) #IMPLIED d ( 1 | -:\n|.\t) 'zz'>": {Kind: decl.AttList, Name: "a", Atts: []decl.Att{
			{Name: "b", Type: "ENUM", Words: []string{"c"}, Default: decl.Implied}, {Name: "d", Type: "ENUM", Words: []string{"1", "-:", "."}, Default: decl.Given, Value: []rune("zz")},
		}},
		"<!ATTLIST a b (c|c|\u00b7) #REQUIRED>": {Kind: decl.AttList, Name: "a", Atts: []decl.Att{{Name: "b", Type: "ENUM", Words: []string{"c", "c", "\u00b7"}, Default: decl.Required}}},
		"<!ATTLIST a b NOTATION (c) #FIXED '' d NOTATION\n( e|f |\r\ng ) #REQUIRED>": {Kind: decl.AttList, Name: "a", Atts: []decl.Att{
			{Name: "b", Type: "NOTATION", Words: []string{"c"}, Default: decl.Fixed}, {Name: "d", Type: "NOTATION", Words: []string{"e", "f", "g"}, Default: decl.Required},
		}},
		"<!ATTLIST a CDATA CDATA '&lt;&#60;&x;\r\n\t%p;>'>": {Kind: decl.AttList, Name: "a", Atts: []decl.Att{{Name: "CDATA", Type: "CDATA", Default: decl.Given, Value: []rune("&lt;&#60;&x;\n\t%p;>")}}},
	})
	for _, kind := range []string{"CDATA", "ID", "IDREF", "IDREFS", "ENTITY", "ENTITIES", "NMTOKEN", "NMTOKENS"} {
		reads(t, map[string]decl.Decl{"<!ATTLIST a b " + kind + " ''>": {Kind: decl.AttList, Name: "a", Atts: []decl.Att{{Name: "b", Type: kind, Default: decl.Given}}}})
		refuses(t, "<!ATTLIST a b "+strings.ToLower(kind)+" ''>", "<!ATTLIST a b "+kind+"''>", "<!ATTLIST a b "+kind+">", "<!ATTLIST a b "+kind+" (c) ''>", "<!ATTLIST a b"+kind+" ''>", "<!ATTLIST a b "+kind+"x ''>")
	}
	refuses(t,
		"<!ATTLIST>", "<!ATTLIST >", "<!ATTLISTa>", "<!attlist a>", "<!ATTLIST 1>", "<!ATTLIST a b>", "<!ATTLIST a b CDATA #REQUIRED", "<!ATTLIST a (c) 'c'>", "<!ATTLIST a 1 CDATA ''>", "<!ATTLIST a 'b' CDATA ''>",
		"<!ATTLIST a b ENUM 'c'>", "<!ATTLIST a b (c)'c'>", "<!ATTLIST a b(c) 'c'>", "<!ATTLIST a b () 'c'>", "<!ATTLIST a b ( ) 'c'>", "<!ATTLIST a b (|c) 'c'>", "<!ATTLIST a b (c|) 'c'>", "<!ATTLIST a b (c||d) 'c'>",
		"<!ATTLIST a b (c d) 'c'>", "<!ATTLIST a b (c,d) 'c'>", "<!ATTLIST a b (c 'c'>", "<!ATTLIST a b c) 'c'>", "<!ATTLIST a b ('c') 'c'>", "<!ATTLIST a b (c)* 'c'>", "<!ATTLIST a b ((c)) 'c'>", "<!ATTLIST a b (\u00d7) 'c'>",
		"<!ATTLIST a b NOTATION 'c'>", "<!ATTLIST a b NOTATION(c) 'c'>", "<!ATTLIST a b NOTATION () 'c'>", "<!ATTLIST a b NOTATION (1) 'c'>", "<!ATTLIST a b NOTATION (x:c) 'c'>", "<!ATTLIST a b NOTATION (c|d:e) 'c'>",
		"<!ATTLIST a b NOTATION (c|) 'c'>", "<!ATTLIST a b NOTATION (|c) 'c'>", "<!ATTLIST a b NOTATION (c d) 'c'>", "<!ATTLIST a b NOTATION c 'c'>", "<!ATTLIST a b notation (c) 'c'>",
		"<!ATTLIST a b CDATA #required>", "<!ATTLIST a b CDATA # REQUIRED>", "<!ATTLIST a b CDATA REQUIRED>", "<!ATTLIST a b CDATA #REQUIREDx>", "<!ATTLIST a b CDATA #IMPLIED 'v'>", "<!ATTLIST a b CDATA #REQUIRED #REQUIRED>",
		"<!ATTLIST a b CDATA #FIXED>", "<!ATTLIST a b CDATA #FIXED >", "<!ATTLIST a b CDATA #FIXED'v'>", "<!ATTLIST a b CDATA #FIXED v>", "<!ATTLIST a b CDATA #FIXED #IMPLIED>", "<!ATTLIST a b CDATA #fixed 'v'>", "<!ATTLIST a b CDATA #GIVEN 'v'>",
		"<!ATTLIST a b CDATA '<'>", "<!ATTLIST a b CDATA #FIXED '<'>", "<!ATTLIST a b CDATA '&'>", "<!ATTLIST a b CDATA '&x'>", "<!ATTLIST a b CDATA '&#0;'>", "<!ATTLIST a b CDATA #FIXED '&'>", "<!ATTLIST a b CDATA '\x01'>",
		"<!ATTLIST a b CDATA 'v'c CDATA 'v'>", "<!ATTLIST a b CDATA 'v' c>", "<!ATTLIST a b CDATA #IMPLIEDc CDATA #IMPLIED>", "<!ATTLIST a b CDATA 'v' 'w'>", "<!ATTLIST a b CDATA 'v' >>",
	)
}

// P15.1: elements, by hand: the content is told without its blanks.
func TestElement(t *testing.T) {
	reads(t, map[string]decl.Decl{
		"<!ELEMENT a EMPTY>":                      {Kind: decl.Element, Name: "a", Content: "EMPTY"},
		"<!ELEMENT\ta:b\r\nANY\n >":               {Kind: decl.Element, Name: "a:b", Content: "ANY"},
		"<!ELEMENT : ( #PCDATA\t)* >":             {Kind: decl.Element, Name: ":", Content: "(#PCDATA)*"},
		"<!ELEMENT a ( #PCDATA\n|\r b |c:d )*>":   {Kind: decl.Element, Name: "a", Content: "(#PCDATA|b|c:d)*"},
		"<!ELEMENT a ( b? , (c | \u00e9 )+\t)* >": {Kind: decl.Element, Name: "a", Content: "(b?,(c|\u00e9)+)*"},
		"<!ELEMENT EMPTY (EMPTY)>":                {Kind: decl.Element, Name: "EMPTY", Content: "(EMPTY)"},
	})
	refuses(t,
		"<!ELEMENT>", "<!ELEMENT a>", "<!ELEMENT a >", "<!ELEMENTa ANY>", "<!element a ANY>", "<!ELEMENT aANY>", "<!ELEMENT a any>", "<!ELEMENT a Empty>", "<!ELEMENT a ANYx>", "<!ELEMENT a ANY EMPTY>", "<!ELEMENT a EMPTY*>", "<!ELEMENT a b>",
		"<!ELEMENT a(b)>", "<!ELEMENT 1 ANY>", "<!ELEMENT (a) ANY>", "<!ELEMENT a (b) (c)>", "<!ELEMENT a (b)", "<!ELEMENT a (b>", "<!ELEMENT a (b) x>", "<!ELEMENT a (b) *>", "<!ELEMENT a %c;>", "<!ELEMENT a 'ANY'>", "<!ELEMENT a (b)\x01>",
	)
}

// P15.2: contents, by hand: no blanks around, how often right behind, one sign in a group.
func TestContent(t *testing.T) {
	for _, s := range []string{
		"EMPTY", "ANY", "(#PCDATA)", "(#PCDATA)*", "( #PCDATA\t)*", "(\r\n#PCDATA )", "(#PCDATA|a)*", "( #PCDATA | a\n|b:c )*", "(#PCDATA|a|a)*",
		"(a)", "( a )", "(a)?", "(a)*", "(a)+", "(a?)", "(a*)+", "(a|b)", "(a , b)", "(a?|b*|c+)", "( a? ,\tb* ,c+ )?", "(a,(b|c),d)", "((a))", "((a)?)*", "( (a|b)+ , c )", "((a|b),(c|d))",
		"(EMPTY|ANY)", "(PCDATA)", "(a|a)", "(:)", "(\u00e9\u00b7.-1)",
	} {
		if !decl.Content([]rune(s)) {
			t.Errorf("Content(%q) = false", s)
		}
	}
	for _, s := range []string{
		"", " ", "empty", "Any", "EMPTYANY", " EMPTY", "ANY ", "EMPTY*", "a", "a*", "()", "( )", "(", ")", "(a", "a)", " (a)", "(a) ", "(a))", "((a)", "(a)(b)", "(a)**", "(a)?*", "(a) *", "(a??)", "(a *)", "(a?+)",
		"(a b)", "(a||b)", "(a,,b)", "(|a)", "(a|)", "(,a)", "(a,)", "(a|b,c)", "(a,b|c)", "(a|(b,c)|d,e)", "(a,(b|c)|d)", "(1)", "('a')", "(a;b)", "(a&b)", "(a\u00a0)", "(a\x01)", "(%a;)",
		"#PCDATA", "(#PCDATA)?", "(#PCDATA)+", "(#PCDATA)**", "(#PCDATA) *", "(#PCDATA*)", "(#PCDATA?)", "(#pcdata)", "(# PCDATA)", "(#PCDATAa)", "(#PCDATA|a)", "(#PCDATA|a)?", "(#PCDATA|a)+", "(#PCDATA|a) *", "(#PCDATA,a)*",
		"(#PCDATA|)*", "(#PCDATA||a)*", "(#PCDATA|a*)*", "(#PCDATA|(a))*", "(#PCDATA a)*", "(#PCDATA|a b)*", "(#PCDATA|#PCDATA)*", "(a|#PCDATA)*", "((#PCDATA))", "((#PCDATA)|a)*", "(#PCDATA|1)*", "(#PCDATA|a",
	} {
		if decl.Content([]rune(s)) {
			t.Errorf("Content(%q) = true", s)
		}
	}
}

// nested is n groups within one another; what else stands in each of them, at its beginning and from its end on, is handed in.
func nested(n int, ahead, behind string) string {
	return strings.Repeat("("+ahead, n) + "a" + strings.Repeat(behind, n)
}

// P15.1, P15.2: groups are at most 64 deep, whatever else stands in them, and however many stand side by side.
func TestGroupsDeep(t *testing.T) {
	wide := "(" + strings.Repeat("(a),", 200) + "b)"
	if !decl.Content([]rune(wide)) {
		t.Error("groups side by side are no content")
	}
	for n, want := range map[int]bool{2: true, 3: true, 63: true, 64: true, 65: false, 66: false, 128: false, 1000: false, 100000: false} {
		for _, s := range []string{
			nested(n, "", ")"), nested(n, " ", "\n)*"), nested(n, "b,", ")"), nested(n, "", ",b)?"), nested(n-1, "(c)|", ")"),
			"(" + nested(n-1, "", ")") + "," + nested(n-1, "", ")") + ")",
		} {
			if got := decl.Content([]rune(s)); got != want {
				t.Errorf("Content(%.40q), %d deep, is %v", s, n, got)
			}
			if _, got := read("<!ELEMENT a " + s + " >"); got != want {
				t.Errorf("an Element of %.40q, %d deep, is %v", s, n, got)
			}
		}
	}
}

// P15.2: literals, by hand: ends of lines as they stand.
func TestLiteral(t *testing.T) {
	for s, want := range map[string]string{
		"": "", "a": "a", "&#65;&x;": "A&x;", "\r\n\r\n\n": "\r\n\r\n\n", "&#13;&#x0a;": "\r\n", `it's "`: `it's "`, "<a>&lt;]]></a>": "<a>&lt;]]></a>", "&#37;&#x25;": "%%", "&#38;#38;": "&#38;",
		"&#x10FFFF;&#xE000;": "\U0010FFFF\uE000", "&a:b;\u00e9": "&a:b;\u00e9", "&#000000000000000000065;": "A",
	} {
		if got, ok := decl.Literal([]rune(s)); !ok || string(got) != want {
			t.Errorf("Literal(%q) = %q, %v, want %q", s, string(got), ok, want)
		}
	}
	for _, s := range []string{"%", "a%b", "%p;", "&", "&&#65;", "&;", "&#;", "&#x;", "&#a;", "&x", "& x;", "&#0;", "&#xD800;", "&#x110000;", "&#65536000000;", "&#99999999999999999999;", "a\x00", "\ufffe", "\x0b&#65;", "&#65;\uffff"} {
		if got, ok := decl.Literal([]rune(s)); ok || len(got) > 0 {
			t.Errorf("Literal(%q) = %q, %v, want nothing, false", s, string(got), ok)
		}
	}
}

// odd are runes that are no Char.
var odd = []rune{api.Bad, math.MinInt32, math.MaxInt32, -2, 0, 8, 0xB, 0xC, 0xE, 0x1F, 0xD800, 0xDFFF, 0xFFFE, 0xFFFF, 0x110000}

// P15.1, P15.2: what is no Char stands at no place.
func TestNoChar(t *testing.T) {
	for _, s := range []string{
		"<!ENTITY e 'v'>", "<!ENTITY % e SYSTEM 's' >", "<!ENTITY e PUBLIC 'p' 's' NDATA n>", "<!NOTATION n PUBLIC 'p'>", "<!ELEMENT a ( #PCDATA | b )*>", "<!ELEMENT a (b,(c)?) >",
		"<!ATTLIST a b CDATA 'v' c (d|e) #IMPLIED f NOTATION ( g ) #FIXED 'h' >", "(a,b)*", "ANY", "v",
	} {
		l := []rune(s)
		for i := range len(l) + 1 {
			for _, r := range odd {
				for n := range 2 {
					with := slices.Insert(slices.Delete(slices.Clone(l), i, min(i+n, len(l))), i, r)
					d, ok := decl.Read(with, 0, len(with))
					meant, is := decl.Literal(with)
					if ok || !same(d, decl.Decl{}) || is || len(meant) > 0 || decl.Content(with) {
						t.Errorf("%q with %x at %d is read", s, r, i)
					}
				}
			}
		}
	}
	// Other runes may stand in quotes.
	reads(t, map[string]decl.Decl{"<!ENTITY e '\t\u0080\ud7ff\ue000\ufffd\U00010000\U0010ffff\x7f'>": {Kind: decl.Entity, Name: "e", Value: []rune("\t\u0080\ud7ff\ue000\ufffd\U00010000\U0010ffff\x7f")}})
}

// P15.1: a part of a row is read as if there were no more; places that may not be are nothing.
func TestPlaces(t *testing.T) {
	l := []rune("x<!ENTITY e 'v'><!ELEMENT a ANY>'>")
	const n = 16
	for from := -2; from <= len(l)+2; from++ {
		for to := -2; to <= len(l)+2; to++ {
			d, ok := decl.Read(l, from, to)
			switch {
			case from == 1 && to == n:
				if want := (decl.Decl{Kind: decl.Entity, Name: "e", Value: []rune("v")}); !ok || !same(d, want) {
					t.Errorf("Read from %d to %d is %+v, %v", from, to, d, ok)
				}
			case from == n && to == len(l)-2:
				if want := (decl.Decl{Kind: decl.Element, Name: "a", Content: "ANY"}); !ok || !same(d, want) {
					t.Errorf("Read from %d to %d is %+v, %v", from, to, d, ok)
				}
			case ok || !same(d, decl.Decl{}):
				t.Errorf("Read from %d to %d is %+v, %v", from, to, d, ok)
			}
		}
	}
	far := []int{math.MinInt, math.MinInt + 1, -1, 0, 1, 7, 8, 9, math.MaxInt - 1, math.MaxInt}
	for _, from := range far {
		for _, to := range far {
			if d, ok := decl.Read([]rune("<!X a>>"), from, to); ok || !same(d, decl.Decl{}) {
				t.Errorf("Read from %d to %d is %+v, %v", from, to, d, ok)
			}
			if d, ok := decl.Read(nil, from, to); ok || !same(d, decl.Decl{}) {
				t.Errorf("Read of nothing from %d to %d is %+v, %v", from, to, d, ok)
			}
		}
	}
	if !decl.Content([]rune("x(a)")[1:]) || decl.Content(nil) {
		t.Error("Content of a part of a row, or of none, is not as it must be")
	}
	if l, ok := decl.Literal(nil); !ok || len(l) != 0 {
		t.Error("Literal of nothing is", l, ok)
	}
}

// Rules 4 and 5: what is handed in is neither changed nor kept, and what is answered shares nothing with it, nor with other answers.
func TestAnswersAreNew(t *testing.T) {
	const lists = "<!ATTLIST a b (c|d) 'v' e NOTATION (f|g) #FIXED 'w\r\n'>"
	const entity = "<!ENTITY e 'v&x;'>"
	for _, s := range []string{lists, entity} {
		l := []rune(s)
		first, _ := decl.Read(l, 0, len(l))
		if string(l) != s {
			t.Errorf("%q is changed by Read", s)
		}
		second, _ := decl.Read(l, 0, len(l))
		want, _ := read(s)
		for i := range l {
			l[i] = 'z'
		}
		if !same(first, want) {
			t.Errorf("%q is kept", s)
		}
		spoil(first)
		if !same(second, want) {
			t.Errorf("two answers of %q share memory", s)
		}
	}
	l := []rune("a&x;b")
	got, _ := decl.Literal(l)
	l[0] = 'z'
	if string(got) != "a&x;b" {
		t.Error("Literal keeps what is handed in")
	}
	got = append(got, 'y')
	got[1] = 'y'
	if string(l) != "z&x;b" {
		t.Error("Literal answers what is handed in")
	}
	model := []rune(" ( a | b )* ")
	if decl.Content(model[1:11]); string(model) != " ( a | b )* " {
		t.Error("Content changes what is handed in")
	}
}

// spoil writes into all lists of a declaration, and behind each of them; no list may be seen in another one.
func spoil(d decl.Decl) {
	_ = append(d.Value, 'y')
	for i := range d.Value {
		d.Value[i] = 'y'
	}
	for i, a := range d.Atts {
		_ = append(append(a.Value, 'y'), 'y')
		_ = append(append(a.Words, "y"), "y")
		for j := range a.Value {
			a.Value[j] = 'y'
		}
		for j := range a.Words {
			a.Words[j] = "y"
		}
		d.Atts[i] = decl.Att{}
	}
	_ = append(d.Atts, decl.Att{Name: "y"})
}

// Rule 4: no two lists of one answer share memory.
func TestListsAreApart(t *testing.T) {
	d, _ := read("<!ATTLIST a b (c|d) 'v' e (f|g) 'w'>")
	want, _ := read("<!ATTLIST a b (c|d) 'v' e (f|g) 'w'>")
	second := d.Atts[1]
	spoil(decl.Decl{Atts: d.Atts[:1:1]})
	if !same(decl.Decl{Atts: []decl.Att{second}}, decl.Decl{Atts: want.Atts[1:]}) {
		t.Errorf("the second attribute is %+v", second)
	}
}

// P1: long declarations of all kinds, and such as do not end, are read in good time.
func TestLong(t *testing.T) {
	const n = 200000
	long := strings.Repeat
	for s, want := range map[string]bool{
		"<!ENTITY e '" + long("&#65;", n) + "'>":                          true,
		"<!ENTITY e '" + long("&", n) + "'>":                              false,
		"<!ENTITY e '" + long("x", n) + ">":                               false,
		"<!ENTITY " + long("e", n) + " '" + long("\"", n) + "'>":          true,
		"<!ENTITY" + long(" ", n) + "e" + long("\n", n) + "''>":           true,
		"<!ENTITY" + long("%", n) + ">":                                   false,
		"<!ATTLIST a" + long(" b CDATA ''", n) + ">":                      true,
		"<!ATTLIST a" + long(" b CDATA '", n+1) + ">":                     false,
		"<!ATTLIST a b (" + long("c|", n) + "c) #IMPLIED>":                true,
		"<!ATTLIST a b (" + long("c|", n) + ") #IMPLIED>":                 false,
		"<!ATTLIST a" + long(" ", n) + "b CDATA" + long(" ", n) + "'v'>":  true,
		"<!ELEMENT a (" + long("b,", n) + "b)>":                           true,
		"<!ELEMENT a (" + long("(b|c)*,", n) + "b)>":                      true,
		"<!ELEMENT a " + long("(", n) + ">":                               false,
		"<!ELEMENT a (#PCDATA" + long("|b", n) + ")*>":                    true,
		"<!NOTATION n PUBLIC '" + long("p", n) + "'" + long(" ", n) + ">": true,
	} {
		if _, ok := read(s); ok != want {
			t.Errorf("%.40q.. is read: %v", s, ok)
		}
	}
}

// P1: all short rows of odd runes and signs end without a panic.
func TestOddRows(t *testing.T) {
	signs := append([]rune("<!ENTY%( )'\"&;|#>"), odd...)
	for _, a := range signs {
		for _, b := range signs {
			for _, c := range signs {
				l := []rune{a, b, c}
				decl.Read(l, 0, 3)
				decl.Content(l)
				decl.Literal(l)
			}
		}
	}
}

// The chapter's constants have the numbers that it tells.
func TestConstants(t *testing.T) {
	kinds := []int{decl.Entity, decl.Param, decl.AttList, decl.Element, decl.Notation}
	defaults := []int{decl.Required, decl.Implied, decl.Fixed, decl.Given}
	if !slices.Equal(kinds, []int{1, 2, 3, 4, 5}) || !slices.Equal(defaults, []int{1, 2, 3, 4}) {
		t.Error("the numbers are", kinds, defaults)
	}
}

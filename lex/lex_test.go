package lex_test

import (
	"math"
	"slices"
	"strings"
	"testing"

	"rubric/api"
	"rubric/class"
	"rubric/lex"
	"rubric/name"
	"rubric/rows"
)

// The chapter's reading: all of it is told of the beginning of a text whose bytes stand for runes.

// upTo is how many bytes of s stand up to and with the first sign from a place on, and whether it is there; else all of them.
func upTo(s string, from int, sign string) (int, bool) {
	if from <= len(s) {
		if i := strings.Index(s[from:], sign); i >= 0 {
			return from + i + len(sign), true
		}
	}
	return len(s), false
}

// veil is s with a Q for each byte of what stands in quotes, and for the quotes.
func veil(s string) string {
	b := []byte(s)
	for i := 0; i < len(b); i++ {
		if s[i] == '"' || s[i] == '\'' {
			n, _ := upTo(s[i:], 1, s[i:i+1])
			copy(b[i:], strings.Repeat("Q", n))
			i += n - 1
		}
	}
	return string(b)
}

// readDoctype goes through a document type and cuts off what is passed over.
func readDoctype(s string) (int, bool) {
	rest, inside := s[9:], false
	for rest != "" {
		n, ok := 1, true
		switch c := rest[:1]; {
		case !inside && c == ">":
			return len(s) - len(rest) + 1, true
		case !inside && (c == `"` || c == `'`):
			n, ok = upTo(rest, 1, c)
		case inside && strings.HasPrefix(rest, "<!--"):
			n, ok = upTo(rest, 4, "-->")
		case inside && strings.HasPrefix(rest, "<?"):
			n, ok = upTo(rest, 2, "?>")
		case inside && c == "<":
			n, ok = upTo(veil(rest), 0, ">")
		case inside && c == "]":
			inside = false
		case c == "[":
			inside = true
		}
		if !ok {
			break
		}
		rest = rest[n:]
	}
	return len(s), false
}

// readTag is where a start tag ends.
func readTag(s string) (int, bool) {
	v := veil(s)
	i := strings.IndexAny(v[1:], "<>")
	if i < 0 {
		return len(s), false
	}
	if v[1+i] == '<' {
		return 1 + i, false
	}
	return 2 + i, true
}

// readEnd is where an end tag ends.
func readEnd(s string) (int, bool) {
	to, ok := upTo(s, 2, ">")
	if i := strings.Index(s[2:to], "<"); i >= 0 {
		return 2 + i, false
	}
	return to, ok
}

// readReference is the kind of what an & begins, and how many bytes it has; 0, if it is none.
func readReference(s string) (int, int) {
	inner, ok := upTo(s, 0, ";")
	if !ok {
		return 0, 0
	}
	of := func(s, signs string) bool { return s != "" && strings.Trim(s, signs) == "" }
	text := s[1 : inner-1]
	const starts, chars = "abcdefxXABCDEF_:\x02", "0123456789-.\x03"
	switch {
	case strings.HasPrefix(text, "#x") && of(text[2:], "0123456789abcdefABCDEF"):
		return lex.Num, inner
	case strings.HasPrefix(text, "#") && of(text[1:], "0123456789"):
		return lex.Num, inner
	case text != "" && strings.Contains(starts, text[:1]) && of(text, starts+chars):
		return lex.Ref, inner
	}
	return 0, 0
}

// reading is the token with which s begins.
func reading(s string) lex.Token {
	t := lex.Token{Kind: lex.Broken, To: 1}
	switch {
	case strings.HasPrefix(s, "<!--"):
		t.Kind = lex.Comment
		t.To, t.Whole = upTo(s, 4, "-->")
	case strings.HasPrefix(s, "<![CDATA["):
		t.Kind = lex.CData
		t.To, t.Whole = upTo(s, 9, "]]>")
	case strings.HasPrefix(s, "<?"):
		t.Kind = lex.PI
		t.To, t.Whole = upTo(s, 2, "?>")
	case strings.HasPrefix(s, "<!DOCTYPE"):
		t.Kind = lex.Doctype
		t.To, t.Whole = readDoctype(s)
	case strings.HasPrefix(s, "</"):
		t.Kind = lex.End
		t.To, t.Whole = readEnd(s)
	case len(s) > 1 && s[0] == '<' && strings.IndexByte("abcdefxXABCDEF_:\x02", s[1]) >= 0:
		t.Kind = lex.Start
		t.To, t.Whole = readTag(s)
		if t.Whole && strings.HasSuffix(s[:t.To], "/>") {
			t.Kind = lex.Empty
		}
	case s[0] == '&':
		if kind, n := readReference(s); n > 0 {
			t = lex.Token{Kind: kind, To: n, Whole: true}
		}
	case s[0] != '<' && s[0] != rows.Bad:
		t = lex.Token{Kind: lex.Text, To: len(s), Whole: true}
		if i := strings.IndexAny(s, "<&\x01"); i >= 0 {
			t.To = i
		}
	}
	return t
}

// agree holds the tokens of s, and those that begin at each of its runes, against the reading.
func agree(t *testing.T, s string) {
	t.Helper()
	l := rows.Of(s)
	var want []lex.Token
	at := make([]lex.Token, len(s))
	for from := range at {
		tok := reading(s[from:])
		tok.From, tok.To = from, tok.To+from
		at[from] = tok
		if got, ok := lex.Next(l, from); got != tok || !ok {
			t.Fatalf("Next(%q, %d) = %v, %v, want %v", s, from, got, ok, tok)
		}
	}
	for from := 0; from < len(s); from = at[from].To {
		want = append(want, at[from])
	}
	if got := lex.Tokens(l); !slices.Equal(got, want) {
		t.Fatalf("Tokens(%q) = %v, want %v", s, got, want)
	}
}

// P7.1: all short rows of signs.
func TestTokensOfSigns(t *testing.T) {
	signs := strings.Split("< > & ; # x a 1 / ! ? - \" ' [ ] = D \x01 \x02 \x03 \x04", " ")
	rows.All(4, append(signs, " ", "\n"), func(s string) { agree(t, s) })
}

// P7.1: rows of what comments, marked sections and processing instructions begin and end with.
func TestTokensOfMarkup(t *testing.T) {
	parts := []string{"<!--", "<!-", "<![CDATA[", "<?", "<!", "-", "-->", "]", "]]>", "?", ">", "a"}
	rows.All(5, parts, func(s string) { agree(t, s) })
}

// P7.1: rows of what tags have.
func TestTokensOfTags(t *testing.T) {
	parts := []string{"<a", "</", "<", ">", "/", `"`, `'`, " ", "a", "="}
	rows.All(6, parts, func(s string) { agree(t, s) })
}

// P7.1: document types.
func TestTokensOfDoctypes(t *testing.T) {
	parts := []string{"[", "]", `"`, `'`, ">", "<!--", "-->", "<?", "?>", "<", "<!D", "-", "a"}
	rows.All(5, parts, func(s string) {
		agree(t, "<!DOCTYPE"+s)
		agree(t, "<!DOCTYPE a ["+s+"]>")
	})
	rows.All(3, []string{"<!DOCTYP", "<!DOCTYPE", "E", "e", ">", "[", " "}, func(s string) { agree(t, s) })
}

// P7.1: references.
func TestTokensOfReferences(t *testing.T) {
	parts := []string{"&", "#", "#x", "x", "X", "1", "9", "f", "F", ";", "-", ".", ":", "\x01", "\x02", "\x03", " "}
	rows.All(4, parts, func(s string) {
		agree(t, "&"+s)
		agree(t, "&"+s+";")
	})
}

// names are those of the kinds.
var names = map[int]string{
	lex.Text: "Text", lex.Ref: "Ref", lex.Num: "Num", lex.Comment: "Comment", lex.PI: "PI", lex.CData: "CData",
	lex.Doctype: "Doctype", lex.Start: "Start", lex.Empty: "Empty", lex.End: "End", lex.Broken: "Broken",
}

// told tells tokens: the kind, a ! behind it, if it is not whole, and the runes.
func told(s string, l []lex.Token) string {
	var told []string
	for _, t := range l {
		sign := ""
		if !t.Whole {
			sign = "!"
		}
		told = append(told, names[t.Kind]+sign+" "+s[t.From:t.To])
	}
	return strings.Join(told, "|")
}

// tokens is a text, and what is told of its tokens.
type tokens struct{ s, want string }

// toldAs holds the tokens of texts against what is to be told of them.
func toldAs(t *testing.T, cases []tokens) {
	t.Helper()
	for _, c := range cases {
		if got := told(c.s, lex.Tokens(rows.Of(c.s))); got != c.want {
			t.Errorf("Tokens(%q) is %q, want %q", c.s, got, c.want)
		}
	}
}

// P7.1: the kinds are these numbers.
func TestKinds(t *testing.T) {
	kinds := []int{
		lex.Text, lex.Ref, lex.Num, lex.Comment, lex.PI, lex.CData,
		lex.Doctype, lex.Start, lex.Empty, lex.End, lex.Broken,
	}
	for i, kind := range kinds {
		if kind != i+1 {
			t.Errorf("kind %d is %d", i+1, kind)
		}
	}
}

// P7.1: what the chapter's examples say, and a document.
func TestTokensOfSome(t *testing.T) {
	toldAs(t, []tokens{
		{"", ""},
		{"a<b>&x;", "Text a|Start <b>|Ref &x;"},
		{`<a b=">`, `Start! <a b=">`},
		{"<?xml version='1.0'?>\n<!DOCTYPE a>\n<a b='c'>d&lt;e&#65;<f/><!-- g --></a>\n",
			"PI <?xml version='1.0'?>|Text \n|Doctype <!DOCTYPE a>|Text \n|Start <a b='c'>|Text d|Ref &lt;|Text e|Num &#65;|Empty <f/>|Comment <!-- g -->|End </a>|Text \n"},
		{"]]>", "Text ]]>"},
		{"a]b>c\"d'e;f#g", "Text a]b>c\"d'e;f#g"},
		{"\x01", "Broken! \x01"},
		{"\x01\x01\x01", "Broken! \x01|Broken! \x01|Broken! \x01"},
		{"a\x01b", "Text a|Broken! \x01|Text b"},
		{"<a \x01>", "Start <a \x01>"},
	})
}

// P7.1: comments, marked sections and processing instructions, whose end may begin too early, or not stand there.
func TestEndsOfMarkup(t *testing.T) {
	toldAs(t, []tokens{
		{"<!---->", "Comment <!---->"},
		{"<!-->", "Comment! <!-->"},
		{"<!--->", "Comment! <!--->"},
		{"<!-->-->a", "Comment <!-->-->|Text a"},
		{"<!--->-->a", "Comment <!--->-->|Text a"},
		{"<!----->", "Comment <!----->"},
		{"<!--a--b-->c-->", "Comment <!--a--b-->|Text c-->"},
		{"<!--a<b>&c;\x01-->", "Comment <!--a<b>&c;\x01-->"},
		{"<!--", "Comment! <!--"},
		{"<!--a--", "Comment! <!--a--"},
		{"<!--a-- ><b>", "Comment! <!--a-- ><b>"},
		{"<!-", "Broken! <|Text !-"},
		{"<!- -->", "Broken! <|Text !- -->"},
		{"<![CDATA[]]>", "CData <![CDATA[]]>"},
		{"<![CDATA[a]]>b]]>", "CData <![CDATA[a]]>|Text b]]>"},
		{"<![CDATA[]]]]>", "CData <![CDATA[]]]]>"},
		{"<![CDATA[<a>&b;\x01]]>", "CData <![CDATA[<a>&b;\x01]]>"},
		{"<![CDATA[", "CData! <![CDATA["},
		{"<![CDATA[a]]", "CData! <![CDATA[a]]"},
		{"<![CDATA[a]] ><b>", "CData! <![CDATA[a]] ><b>"},
		{"<![CDATA]]>", "Broken! <|Text ![CDATA]]>"},
		{"<![cdata[a]]>", "Broken! <|Text ![cdata[a]]>"},
		{"<![INCLUDE[a]]>", "Broken! <|Text ![INCLUDE[a]]>"},
		{"<??>", "PI <??>"},
		{"<?>", "PI! <?>"},
		{"<?>a?>b", "PI <?>a?>|Text b"},
		{"<???>", "PI <???>"},
		{"<?a <b> '?>'?>", "PI <?a <b> '?>|Text '?>"},
		{"<?", "PI! <?"},
		{"<?a?", "PI! <?a?"},
		{"<?a? ><b>", "PI! <?a? ><b>"},
	})
}

// P7.1: tags; quotes count in a Start, not in an End.
func TestEndsOfTags(t *testing.T) {
	toldAs(t, []tokens{
		{"<a>", "Start <a>"},
		{"<a/>", "Empty <a/>"},
		{"<a //>", "Empty <a //>"},
		{"<a/ >", "Start <a/ >"},
		{"<a/b>", "Start <a/b>"},
		{"<a/", "Start! <a/"},
		{"<a/<", "Start! <a/|Broken! <"},
		{"<a/<b/>", "Start! <a/|Empty <b/>"},
		{"<a b='/'>", "Start <a b='/'>"},
		{"<a b='/>'>", "Start <a b='/>'>"},
		{"<a b='/>'/>", "Empty <a b='/>'/>"},
		{"<a b='/>", "Start! <a b='/>"},
		{"<a b='<'>", "Start <a b='<'>"},
		{`<a b="'<>" c='">'>d`, `Start <a b="'<>" c='">'>|Text d`},
		{`<a b="<>`, `Start! <a b="<>`},
		{`<a b='"><c>`, `Start! <a b='"><c>`},
		{`<a b='"'><c>`, `Start <a b='"'>|Start <c>`},
		{"<a'>'>b", "Start <a'>'>|Text b"},
		{"<a", "Start! <a"},
		{"<a b", "Start! <a b"},
		{"<a <b>", "Start! <a |Start <b>"},
		{"<a<b>", "Start! <a|Start <b>"},
		{"<a b='c'<d>", "Start! <a b='c'|Start <d>"},
		{"<a</a>", "Start! <a|End </a>"},
		{"<a<!--b-->", "Start! <a|Comment <!--b-->"},
		{"<a<b", "Start! <a|Start! <b"},
		{"<a &b;>", "Start <a &b;>"},
		{"<:>", "Start <:>"},
		{"<\x02>", "Start <\x02>"},
		{"<\x03>", "Broken! <|Text \x03>"},
		{"<\x04>", "Broken! <|Text \x04>"},
		{"<", "Broken! <"},
		{"<<a>", "Broken! <|Start <a>"},
		{"< a>", "Broken! <|Text  a>"},
		{"<>", "Broken! <|Text >"},
		{"<1>", "Broken! <|Text 1>"},
		{"<-a>", "Broken! <|Text -a>"},
		{"<!a>", "Broken! <|Text !a>"},
		{"<&a;", "Broken! <|Ref &a;"},
		{"<\x01>", "Broken! <|Broken! \x01|Text >"},
		{"</a>", "End </a>"},
		{"</>", "End </>"},
		{"</", "End! </"},
		{"</a", "End! </a"},
		{"</a b='>'>", "End </a b='>|Text '>"},
		{"</a b='<'>", "End! </a b='|Broken! <|Text '>"},
		{"</<a>", "End! </|Start <a>"},
		{"</a<b>", "End! </a|Start <b>"},
		{"</a</a>", "End! </a|End </a>"},
		{"</a<b", "End! </a|Start! <b"},
		{"</ a \x01&b;>c", "End </ a \x01&b;>|Text c"},
		{"</a/>", "End </a/>"},
	})
}

// P7.1: references by numbers and names; what is none begins with a Broken.
func TestReferences(t *testing.T) {
	toldAs(t, []tokens{
		{"&#65;", "Num &#65;"},
		{"&#0;", "Num &#0;"},
		{"&#99999999999999999999;", "Num &#99999999999999999999;"},
		{"&#x41;", "Num &#x41;"},
		{"&#xaF09;", "Num &#xaF09;"},
		{"&#;", "Broken! &|Text #;"},
		{"&#x;", "Broken! &|Text #x;"},
		{"&#X41;", "Broken! &|Text #X41;"},
		{"&#4a;", "Broken! &|Text #4a;"},
		{"&#x4g;", "Broken! &|Text #x4g;"},
		{"&#-1;", "Broken! &|Text #-1;"},
		{"&# 1;", "Broken! &|Text # 1;"},
		{"&#1 ;", "Broken! &|Text #1 ;"},
		{"&#65", "Broken! &|Text #65"},
		{"&#x41", "Broken! &|Text #x41"},
		{"&#65&#66;", "Broken! &|Text #65|Num &#66;"},
		{"&#", "Broken! &|Text #"},
		{"&#x", "Broken! &|Text #x"},
		{"&a;", "Ref &a;"},
		{"&a:b-1.\x02\x03;", "Ref &a:b-1.\x02\x03;"},
		{"&:;", "Ref &:;"},
		{"&a;;", "Ref &a;|Text ;"},
		{"&a", "Broken! &|Text a"},
		{"&a ;", "Broken! &|Text a ;"},
		{"& a;", "Broken! &|Text  a;"},
		{"&1a;", "Broken! &|Text 1a;"},
		{"&-;", "Broken! &|Text -;"},
		{"&\x03;", "Broken! &|Text \x03;"},
		{"&a\x04;", "Broken! &|Text a\x04;"},
		{"&a\x01;", "Broken! &|Text a|Broken! \x01|Text ;"},
		{"&", "Broken! &"},
		{"&;", "Broken! &|Text ;"},
		{"&&a;", "Broken! &|Ref &a;"},
		{"&<a>", "Broken! &|Start <a>"},
		{"a&b;c", "Text a|Ref &b;|Text c"},
	})
}

// P7.1: document types, whole ones and such as do not end.
func TestDoctypes(t *testing.T) {
	for _, s := range []string{
		"<!DOCTYPE a>",
		"<!DOCTYPE>",
		"<!DOCTYPEa>",
		"<!DOCTYPE a SYSTEM '>' PUBLIC \"[>'\">",
		"<!DOCTYPE a []>",
		"<!DOCTYPE a ']>['>",
		"<!DOCTYPE a [>]>",
		"<!DOCTYPE a [\"]>",
		"<!DOCTYPE a ['] '>' >",
		"<!DOCTYPE a [] ']>[' >",
		"<!DOCTYPE a [[]>",
		"<!DOCTYPE a ]>",
		"<!DOCTYPE a []]>",
		"<!DOCTYPE a [] [>] >",
		"<!DOCTYPE a [%b;&c;\x01]>",
		"<!DOCTYPE a [<!-->]>\"-->]>",
		"<!DOCTYPE a [<!--->]>'-->]>",
		"<!DOCTYPE a [<!---->]>",
		"<!DOCTYPE a [<?>]>\"?>]>",
		"<!DOCTYPE a [<?b ]>'?>]>",
		"<!DOCTYPE a [<??>]>",
		"<!DOCTYPE a [<!ENTITY b ']>'>]>",
		"<!DOCTYPE a [<!ENTITY b \"'>]\"><!ENTITY c '\">]'>]>",
		"<!DOCTYPE a [<!ENTITY ] >]>",
		"<!DOCTYPE a [<!ENTITY <b '>'>]>",
		"<!DOCTYPE a [<!ENTITY <!-- >]>",
		"<!DOCTYPE a [<!-]>]>",
		"<!DOCTYPE a [<>]>",
		"<!DOCTYPE a [<b ']'>]>",
		"<!DOCTYPE a [</b ']'>]>",
		"<!DOCTYPE a [<![CDATA[ ]>]>",
		"<!DOCTYPE a <!-- ' -- ' >",
		"<!DOCTYPE a <b>",
	} {
		toldAs(t, []tokens{{s + "<b>", "Doctype " + s + "|Start <b>"}})
	}
	for _, s := range []string{
		"<!DOCTYPE",
		"<!DOCTYPE a",
		"<!DOCTYPE a '>",
		"<!DOCTYPE a \">'",
		"<!DOCTYPE a [",
		"<!DOCTYPE a [>",
		"<!DOCTYPE a []",
		"<!DOCTYPE a [] '>",
		"<!DOCTYPE a [] [>",
		"<!DOCTYPE a [<!--]>",
		"<!DOCTYPE a [<!-->]>",
		"<!DOCTYPE a [<!--->]>",
		"<!DOCTYPE a [<!--b--]>",
		"<!DOCTYPE a [<?]>",
		"<!DOCTYPE a [<?>]>",
		"<!DOCTYPE a [<!ENTITY b ']>",
		"<!DOCTYPE a [<!ENTITY b \"']>",
		"<!DOCTYPE a [<!ENTITY b",
		"<!DOCTYPE a [<]>",
		"<!DOCTYPE a [<",
	} {
		toldAs(t, []tokens{{s, "Doctype! " + s}})
	}
	toldAs(t, []tokens{
		{"<!DOCTYP>", "Broken! <|Text !DOCTYP>"},
		{"<!doctype a>", "Broken! <|Text !doctype a>"},
		{"<! DOCTYPE a>", "Broken! <|Text ! DOCTYPE a>"},
		{"<!DOCTYPE a [<!ENTITY b '>'>]>]>", "Doctype <!DOCTYPE a [<!ENTITY b '>'>]>|Text ]>"},
	})
}

// P7.1: each rune is Text, but <, & and Bad; a < is a tag's with each that begins a name, a reference has each that a name has.
func TestTokensOfEachRune(t *testing.T) {
	for r := rune(-300); r <= 0x110001; r++ {
		alone := lex.Token{Kind: lex.Text, To: 1, Whole: true}
		if r == '<' || r == '&' || r == api.Bad {
			alone = lex.Token{Kind: lex.Broken, To: 1}
		}
		if got, ok := lex.Next([]rune{r}, 0); got != alone || !ok {
			t.Errorf("%x alone is %v", r, got)
		}
		l := []rune{'<', r, '>'}
		if got, _ := lex.Next(l, 0); (got == lex.Token{Kind: lex.Start, To: 3, Whole: true}) != class.NameStart(r) {
			t.Errorf("%x is a tag: %v", l, got)
		}
		l = []rune{'&', 'a', r, ';'}
		if got, _ := lex.Next(l, 0); (got == lex.Token{Kind: lex.Ref, To: 4, Whole: true}) != (name.Lead(l, 1) == 2) {
			t.Errorf("%x is a reference: %v", l, got)
		}
		_, is := class.Digit(r)
		l = []rune{'&', '#', r, ';'}
		if got, _ := lex.Next(l, 0); (got == lex.Token{Kind: lex.Num, To: 4, Whole: true}) != is {
			t.Errorf("%x is a number: %v", l, got)
		}
		_, is = class.Hex(r)
		l = []rune{'&', '#', 'x', r, ';'}
		if got, _ := lex.Next(l, 0); (got == lex.Token{Kind: lex.Num, To: 5, Whole: true}) != is {
			t.Errorf("%x is a number of sixteen: %v", l, got)
		}
	}
	for _, r := range []rune{math.MinInt32, math.MaxInt32} {
		if got := lex.Tokens([]rune{r, '<', r}); told("a<b", got) != "Text a|Broken! <|Text b" {
			t.Errorf("%x is %v", r, got)
		}
	}
}

// P7.1: where there is no rune, there is no token.
func TestNextOfNoRune(t *testing.T) {
	for _, s := range []string{"", "a", "<a>", "&"} {
		for _, from := range []int{math.MinInt, -len(s) - 1, -2, -1, len(s), len(s) + 1, 99, math.MaxInt32, math.MaxInt} {
			if got, ok := lex.Next(rows.Of(s), from); got != (lex.Token{}) || ok {
				t.Errorf("Next(%q, %d) = %v, %v", s, from, got, ok)
			}
		}
	}
	if len(lex.Tokens(nil)) != 0 || len(lex.Tokens([]rune{})) != 0 {
		t.Error("no runes have tokens")
	}
	// What lies behind the end of a row, within its capacity, is none of it.
	if got := lex.Tokens(rows.Of("<!--a-->")[:5]); told("<!--a", got) != "Comment! <!--a" {
		t.Errorf("a token looks beyond the end: %v", got)
	}
}

// P7.3: tokens lie one behind the other, none is empty, and all runes are in them.
func TestTokensHaveAllRunes(t *testing.T) {
	parts := []string{"<!DOCTYPE", "<!--", "<?", "<![CDATA[", "<a", "</", "<", ">", "&a;", "&", "[", "]", `"`, "/", "\x01", "a"}
	rows.All(4, parts, func(s string) {
		at := 0
		for _, tok := range lex.Tokens(rows.Of(s)) {
			if tok.From != at || tok.To <= tok.From {
				t.Fatalf("Tokens(%q): one is from %d up to %d, behind %d", s, tok.From, tok.To, at)
			}
			at = tok.To
		}
		if at != len(s) {
			t.Fatalf("Tokens(%q) end at %d", s, at)
		}
	})
}

// P7.2: Starts by its reading: a text's bytes are runes.
func TestStartsOfRows(t *testing.T) {
	places := []int{math.MinInt, -2, -1, 0, 1, 2, 3, 4, 5, math.MaxInt32, math.MaxInt}
	rows.All(3, []string{"a", "b", "<"}, func(s string) {
		l := rows.Of(s)
		rows.All(4, []string{"a", "b", "<"}, func(sign string) {
			for _, at := range places {
				want := at >= 0 && at <= len(s) && strings.HasPrefix(s[at:], sign)
				if got := lex.Starts(l, at, sign); got != want {
					t.Fatalf("Starts(%q, %d, %q) = %v", s, at, sign, got)
				}
			}
		})
	})
}

// P7.2: signs are bytes below 80 (hexadecimal), others are no rune's.
func TestStartsOfBytes(t *testing.T) {
	for b := range 256 {
		sign := string([]byte{byte(b)})
		for _, r := range []rune{rune(b), rune(b) - 0x100, rune(b) + 0x100, rune(b) + 0x10000, rune(int8(b)), api.Bad, 0xFFFD} {
			want := b < 0x80 && r == rune(b)
			l := []rune{'a', r, 'c'}
			if lex.Starts(l, 1, sign) != want || lex.Starts(l, 0, "a"+sign+"c") != want || lex.Starts(l, 2, sign) != (b == 'c') {
				t.Errorf("Starts of %x by the byte %x is not %v", r, b, want)
			}
			at, ok := lex.Find(l[1:2], 0, 1, sign)
			if at != 0 || ok != want {
				t.Errorf("Find of the byte %x in %x = %d, %v", b, r, at, ok)
			}
		}
	}
	for _, s := range []string{"é", "\uFFFD", "\xFF", "\xC3"} {
		l := []rune(s)
		if lex.Starts(l, 0, s) || lex.Starts(append([]rune{0xC3}, l...), 0, s) {
			t.Errorf("a row starts with %q", s)
		}
		if at, ok := lex.Find(l, 0, len(l), s); at != 0 || ok {
			t.Errorf("Find of %q = %d, %v", s, at, ok)
		}
	}
}

// P7.2
func TestStartsOfSome(t *testing.T) {
	for _, c := range []struct {
		s    string
		at   int
		sign string
		want bool
	}{
		{"<!--", 0, "<!--", true},
		{"<!--", 0, "<!", true},
		{"<!--", 1, "!-", true},
		{"<!--", 0, "<!---", false},
		{"<!--", 0, "<?", false},
		{"<!--", 3, "--", false},
		{"a", 0, "", true},
		{"a", 1, "", true},
		{"", 0, "", true},
		{"", 0, "a", false},
		{"a", 2, "", false},
		{"a", -1, "", false},
		{"a", -1, "a", false},
		{"a", math.MaxInt, "", false},
		{"a", math.MaxInt, "a", false},
		{"a", math.MinInt, "", false},
		{"\x00a", 0, "\x00", true},
		{"A", 0, "a", false},
	} {
		if got := lex.Starts([]rune(c.s), c.at, c.sign); got != c.want {
			t.Errorf("Starts(%q, %d, %q) = %v", c.s, c.at, c.sign, got)
		}
	}
}

// P7.2: Find by its reading: all places are tried.
func TestFindOfRows(t *testing.T) {
	places := []int{math.MinInt, -1, 0, 1, 2, 3, 4, 5, 6, math.MaxInt32, math.MaxInt}
	found := func(s string, from, to int, sign string) (int, bool) {
		if from < 0 || to < 0 || from > len(s) || to > len(s) {
			return 0, false
		}
		for at := from; at+len(sign) <= to; at++ {
			if s[at:at+len(sign)] == sign {
				return at, true
			}
		}
		return 0, false
	}
	rows.All(5, []string{"a", "-", ">"}, func(s string) {
		l := rows.Of(s)
		for _, sign := range []string{"", "a", "-", "--", "->", "-->", "a-a", "------", "\xFF", "-\xFF"} {
			for _, from := range places {
				for _, to := range places {
					at, ok := lex.Find(l, from, to, sign)
					if want, is := found(s, from, to, sign); at != want || ok != is {
						t.Fatalf("Find(%q, %d, %d, %q) = %d, %v", s, from, to, sign, at, ok)
					}
				}
			}
		}
	})
}

// P7.2: what would end just at the last place, and one beyond it; no signs; places that may not be.
func TestFindOfSome(t *testing.T) {
	for _, c := range []struct {
		s        string
		from, to int
		sign     string
		at       int
		ok       bool
	}{
		{"a-->b", 0, 5, "-->", 1, true},
		{"a-->b", 0, 4, "-->", 1, true},
		{"a-->b", 0, 3, "-->", 0, false},
		{"a-->b", 1, 4, "-->", 1, true},
		{"a-->b", 2, 5, "-->", 0, false},
		{"-->-->", 1, 6, "-->", 3, true},
		{"a---->", 0, 6, "-->", 3, true},
		{"abc", 1, 1, "", 1, true},
		{"abc", 1, 3, "", 1, true},
		{"abc", 3, 3, "", 3, true},
		{"abc", 2, 1, "", 0, false},
		{"abc", 3, 0, "a", 0, false},
		{"", 0, 0, "", 0, true},
		{"", 0, 0, "a", 0, false},
		{"abc", -1, 3, "a", 0, false},
		{"abc", -1, 3, "", 0, false},
		{"abc", 0, -1, "a", 0, false},
		{"abc", 0, 4, "a", 0, false},
		{"abc", 4, 4, "", 0, false},
		{"abc", math.MinInt, math.MaxInt, "a", 0, false},
		{"abc", math.MaxInt, math.MinInt, "a", 0, false},
		{"abc", 0, math.MaxInt, "a", 0, false},
		{"abc", math.MinInt, 3, "a", 0, false},
		{"abc", 0, 3, "abcd", 0, false},
		{"abc", 0, 3, "d", 0, false},
	} {
		if at, ok := lex.Find([]rune(c.s), c.from, c.to, c.sign); at != c.at || ok != c.ok {
			t.Errorf("Find(%q, %d, %d, %q) = %d, %v", c.s, c.from, c.to, c.sign, at, ok)
		}
	}
}

// P1: rows as long as a document may be end, too, however little of them is whole.
func TestLongRows(t *testing.T) {
	for _, part := range []string{
		"a", "<", "<a", "<a>", "<a '", "</", "</a", "<?", "<!--", "<!--a-->", "<!DOCTYPE", "<!DOCTYPE a [<b", "<![CDATA[",
		"&", "&a", "&a;", "&#", "&#1", "&#x", "&#x1;", "[", "]", "\"", "'\"", "\x01", "<!DOCTYPE[]", "<!DOCTYPE'",
	} {
		s := strings.Repeat(part, api.MaxBytes/len(part))
		l := lex.Tokens(rows.Of(s))
		if len(l) == 0 || l[len(l)-1].To != len(s) {
			t.Errorf("tokens of many %q do not go to the end", part)
		}
	}
	for _, part := range []string{"&", "&#", "&#x", "<"} {
		s := part + strings.Repeat("1", api.MaxBytes)
		if l := lex.Tokens(rows.Of(s)); len(l) != 2 || l[1].To != len(s) {
			t.Errorf("%q and many digits are %d tokens", part, len(l))
		}
	}
}

// The rules that hold everywhere, 4: a row that is handed in is not changed, and what is written into an answer is seen by no later one.
func TestTokensAreNew(t *testing.T) {
	l := rows.Of("a<b c='d'/>&e;\x01</f><!DOCTYPE g ['>']>")
	was := slices.Clone(l)
	first := lex.Tokens(l)
	want := slices.Clone(first)
	for i := range first {
		first[i] = lex.Token{}
	}
	lex.Next(l, 1)
	lex.Find(l, 0, len(l), "/>")
	lex.Starts(l, 1, "<b")
	if got := lex.Tokens(l); !slices.Equal(got, want) {
		t.Errorf("tokens are %v after an answer was written into", got)
	}
	if !slices.Equal(l, was) {
		t.Errorf("%x is %x now", was, l)
	}
}

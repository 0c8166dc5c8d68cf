package dtdlex_test

import (
	"math"
	"regexp"
	"slices"
	"strings"
	"testing"

	"rubric/api"
	"rubric/class"
	"rubric/dtdlex"
	"rubric/rows"
)

// What the chapter says, as patterns of texts whose bytes stand for runes.
const (
	namePattern   = `[A-Za-z_:\x02][A-Za-z_:\x02\x03.0-9-]*`
	quotedPattern = `"[^"]*"|'[^']*'`
)

// pattern is that of what begins a text, and its kind.
type pattern struct {
	kind int
	is   *regexp.Regexp
}

// Of more patterns that fit the first one is taken; what begins with a sign of markup is only what the sign begins.
var (
	space   = pattern{dtdlex.Space, regexp.MustCompile(`\A[\x09\x0A\x0D\x20]+`)}
	junk    = pattern{dtdlex.Junk, regexp.MustCompile(`(?s)\A.`)}
	named   = pattern{dtdlex.Name, regexp.MustCompile(`\A` + namePattern)}
	quoted  = pattern{dtdlex.Quoted, regexp.MustCompile(`\A(?:` + quotedPattern + `)`)}
	comment = pattern{dtdlex.Comment, regexp.MustCompile(`(?s)\A<!--.*?-->`)}
	pi      = pattern{dtdlex.PI, regexp.MustCompile(`(?s)\A<\?.*?\?>`)}
	decl    = pattern{dtdlex.Decl, regexp.MustCompile(`\A<(?:[^>"']|` + quotedPattern + `)*>`)}
	peref   = pattern{dtdlex.PERef, regexp.MustCompile(`\A%` + namePattern + `;`)}
)

// first is the part with which s begins, by the first pattern that fits.
func first(s string, patterns ...pattern) dtdlex.Part {
	for _, p := range patterns {
		if m := p.is.FindString(s); m != "" {
			return dtdlex.Part{Kind: p.kind, To: len(m)}
		}
	}
	return dtdlex.Part{}
}

// readWord is the word with which s begins.
func readWord(s string) dtdlex.Part { return first(s, space, named, quoted, junk) }

// readMarkup is what a < begins; nothing, if it does not end.
func readMarkup(s string) dtdlex.Part {
	switch {
	case strings.HasPrefix(s, "<!--"):
		return first(s, comment)
	case strings.HasPrefix(s, "<?"):
		return first(s, pi)
	}
	return first(s, decl)
}

// readItem is the item with which s begins.
func readItem(s string) dtdlex.Part {
	if strings.HasPrefix(s, "<!") || strings.HasPrefix(s, "<?") {
		if p := readMarkup(s); p.To > 0 {
			return p
		}
	}
	return first(s, space, peref, junk)
}

// moved is a part n places further on.
func moved(p dtdlex.Part, n int) dtdlex.Part {
	return dtdlex.Part{Kind: p.Kind, From: p.From + n, To: p.To + n}
}

// each takes all of s by a reading.
func each(s string, read func(s string) dtdlex.Part) []dtdlex.Part {
	var l []dtdlex.Part
	for at := 0; at < len(s); {
		p := moved(read(s[at:]), at)
		l, at = append(l, p), p.To
	}
	return l
}

func readWords(s string) []dtdlex.Part { return each(s, readWord) }
func readItems(s string) []dtdlex.Part { return each(s, readItem) }

// readSub is how many bytes of s a subset has that begins there.
func readSub(s string) int {
	rest := s
	for rest != "" && rest[0] != ']' {
		n := 1
		if rest[0] == '<' {
			n = readMarkup(rest).To
		}
		if n == 0 {
			return len(s)
		}
		rest = rest[n:]
	}
	return len(s) - len(rest)
}

// at are parts that stand n places further on.
func at(n int, l []dtdlex.Part) []dtdlex.Part {
	for i := range l {
		l[i] = moved(l[i], n)
	}
	return l
}

// movedAll are parts n places further on.
func movedAll(n int, l []dtdlex.Part) []dtdlex.Part {
	for i := range l {
		l[i] = moved(l[i], n)
	}
	return l
}

// readParts are the parts of a document type: words, of which some become a subset's, and the last one may become a Close.
func readParts(s string) []dtdlex.Part {
	const open = "<!DOCTYPE"
	if !strings.HasPrefix(s, open) {
		return readWords(s)
	}
	l := []dtdlex.Part{{Kind: dtdlex.Open, To: len(open)}}
	l = append(l, movedAll(len(open), readWords(s[len(open):]))...)
	opens := slices.IndexFunc(l, func(p dtdlex.Part) bool { return s[p.From:p.To] == "[" })
	if opens >= 0 {
		from := l[opens].To
		to := from + readSub(s[from:])
		l[opens].Kind = dtdlex.SubOpen
		l = l[:opens+1]
		if to > from {
			l = append(l, dtdlex.Part{Kind: dtdlex.Sub, From: from, To: to})
		}
		if to < len(s) {
			l = append(l, dtdlex.Part{Kind: dtdlex.SubOpen, From: to, To: to + 1})
			l = append(l, movedAll(to+1, readWords(s[to+1:]))...)
		}
	}
	if last := &l[len(l)-1]; last.Kind == dtdlex.Junk && s[last.From:] == ">" {
		last.Kind = dtdlex.Close
	}
	return l
}

// letters are those of the kinds.
var letters = map[int]string{
	dtdlex.Open: "O", dtdlex.Name: "N", dtdlex.Space: "S", dtdlex.Quoted: "Q", dtdlex.SubOpen: "B", dtdlex.Sub: "I", dtdlex.Close: "C",
	dtdlex.Junk: "J", dtdlex.Decl: "D", dtdlex.Comment: "M", dtdlex.PI: "P", dtdlex.PERef: "R",
}

// A right head: kinds one behind the other, and those that name something outside with the words that stand there.
var (
	headIs   = regexp.MustCompile(`\AOSN(|SNSQ|SNSQSQ)S?(BI?BS?)?C\z`)
	systemIs = regexp.MustCompile(`\A\s+SYSTEM\s`)
	publicIs = regexp.MustCompile(`\A\s+PUBLIC\s+("[-'()+,./:=?;!*#@$_%a-zA-Z0-9 \r\n]*"|'[-()+,./:=?;!*#@$_%a-zA-Z0-9 \r\n]*')\s`)
)

// readHead is the head of a document type.
func readHead(s string) dtdlex.Head {
	l := readParts(s)
	kinds := ""
	for _, p := range l {
		kinds += letters[p.Kind]
	}
	m := headIs.FindStringSubmatch(kinds)
	if m == nil {
		return dtdlex.Head{}
	}
	h := dtdlex.Head{Name: l[2], Right: true}
	outside := s[l[2].To:]
	switch {
	case len(m[1]) == 4 && systemIs.MatchString(outside):
		h.System = l[6]
	case len(m[1]) == 6 && publicIs.MatchString(outside):
		h.Public, h.System = l[6], l[8]
	case m[1] != "":
		return dtdlex.Head{}
	}
	if i := strings.Index(kinds, "I"); i >= 0 {
		h.Subset = l[i]
	}
	return h
}

// movedHead is a head n places further on.
func movedHead(h dtdlex.Head, n int) dtdlex.Head {
	for _, p := range []*dtdlex.Part{&h.Name, &h.Public, &h.System, &h.Subset} {
		if *p != (dtdlex.Part{}) {
			*p = moved(*p, n)
		}
	}
	return h
}

// agree holds what is told of the runes of s from one place up to another one against the readings.
func agree(t *testing.T, s string, from, to int) {
	t.Helper()
	l := rows.Of(s)
	some := s[from:to]
	if got, want := dtdlex.Words(l, from, to), movedAll(from, readWords(some)); !slices.Equal(got, want) {
		t.Fatalf("Words(%q, %d, %d) = %v, want %v", s, from, to, got, want)
	}
	if got, want := dtdlex.Items(l, from, to), movedAll(from, readItems(some)); !slices.Equal(got, want) {
		t.Fatalf("Items(%q, %d, %d) = %v, want %v", s, from, to, got, want)
	}
	if got, want := dtdlex.Parts(l, from, to), movedAll(from, readParts(some)); !slices.Equal(got, want) {
		t.Fatalf("Parts(%q, %d, %d) = %v, want %v", s, from, to, got, want)
	}
	if got, want := dtdlex.Read(l, from, to), movedHead(readHead(some), from); got != want {
		t.Fatalf("Read(%q, %d, %d) = %v, want %v", s, from, to, got, want)
	}
}

// agreeAll is agree of all of s.
func agreeAll(t *testing.T, s string) {
	t.Helper()
	agree(t, s, 0, len(s))
}

// P9.1: all short rows of signs.
func TestPartsOfSigns(t *testing.T) {
	signs := strings.Split("< > ! ? - % ; [ ] \" ' a : 1 & \x01 \x02 \x03 \x04", " ")
	signs = append(signs, " ", "\n")
	rows.All(3, signs, func(s string) {
		agreeAll(t, s)
		agreeAll(t, "%"+s)
		agreeAll(t, "<!"+s+">")
		agreeAll(t, "<!DOCTYPE"+s+">")
		agreeAll(t, "<!DOCTYPE a ["+s+"]>")
	})
}

// P9.1: rows of what items begin and end with.
func TestItemsOfMarkup(t *testing.T) {
	parts := []string{"<!--", "-->", "<?", "?>", "<!", "<", ">", "-", "?", "!", "'", "\"", "%a;", "]"}
	rows.All(4, parts, func(s string) {
		agreeAll(t, s)
		agreeAll(t, "<!DOCTYPE a ["+s+"]>")
	})
}

// P9.1: declarations that may end in quotes only, one behind the other.
func TestItemsOfDeclarations(t *testing.T) {
	parts := []string{"<!", "'", "\"", ">", "a"}
	rows.All(7, parts, func(s string) { agreeAll(t, s) })
}

// P9.1: document types with brackets, quotes and markup in every order.
func TestPartsOfDoctypes(t *testing.T) {
	parts := []string{"[", "]", "'", "\"", ">", "<!--", "-->", "<?", "?>", "<!", " ", "a"}
	rows.All(4, parts, func(s string) {
		agreeAll(t, "<!DOCTYPE"+s+">")
		agreeAll(t, "<!DOCTYPE a "+s+"]>")
	})
	rows.All(3, []string{"<!DOCTYPE", "<!DOCTYP", "E", "e", ">", "[", "]", " "}, func(s string) { agreeAll(t, s) })
}

// P9.2: heads of words in every order.
func TestReadOfWords(t *testing.T) {
	parts := []string{" ", "a", "SYSTEM", "PUBLIC", "'b'", "\"{\"", "[", "c", "]"}
	rows.All(4, parts, func(s string) {
		agreeAll(t, "<!DOCTYPE"+s+">")
		agreeAll(t, "<!DOCTYPE a"+s+"\n>")
		agreeAll(t, "<!DOCTYPE a SYSTEM"+s+">")
		agreeAll(t, "<!DOCTYPE a PUBLIC"+s+">")
		agreeAll(t, "<!DOCTYPE a PUBLIC 'c' "+s+">")
		agreeAll(t, "<!DOCTYPE a PUBLIC 'c' 'd'"+s+">")
	})
}

// P9.1, P9.2: within longer rows, from all places up to all others: nothing looks beyond the last one.
func TestPartsWithinRows(t *testing.T) {
	for _, s := range []string{
		"x<!DOCTYPE a PUBLIC 'b' \"c\" [<!--]--> %d;] >y",
		"<!DOCTYPE<!DOCTYPE a:b\r\nSYSTEM '' [<!E '>' \">\"><?]?>]>]>",
		"<!-- a --><?b ?><!c '>' d \">\"><!e '> %f;%g %h;;",
		"<!--><!---><!----><?><??> \t'\"'\"\x01\x02\x03\x04<!>'",
	} {
		for from := range len(s) + 1 {
			for to := from; to <= len(s); to++ {
				agree(t, s, from, to)
			}
		}
	}
}

// P9.1: the kinds are these numbers.
func TestKinds(t *testing.T) {
	kinds := []struct{ kind, want int }{
		{dtdlex.Open, 1}, {dtdlex.Name, 2}, {dtdlex.Space, 3}, {dtdlex.Quoted, 4}, {dtdlex.SubOpen, 5}, {dtdlex.Sub, 6}, {dtdlex.Close, 7},
		{dtdlex.Junk, 8}, {dtdlex.Decl, 11}, {dtdlex.Comment, 12}, {dtdlex.PI, 13}, {dtdlex.PERef, 14},
	}
	for _, k := range kinds {
		if k.kind != k.want {
			t.Errorf("kind %d is %d", k.want, k.kind)
		}
	}
}

// told tells parts by their kinds' letters and their runes.
func told(s string, l []dtdlex.Part) string {
	var told []string
	for _, p := range l {
		told = append(told, letters[p.Kind]+s[p.From:p.To])
	}
	return strings.Join(told, "|")
}

// spelled is what is told of runes of which each is junk.
func spelled(s string) string {
	return "J" + strings.Join(strings.Split(s, ""), "|J")
}

// some is a text, and what is to be told of it.
type some struct{ s, want string }

// toldAs holds what is told of texts' parts against what is to be told.
func toldAs(t *testing.T, parts func(l []rune, from, to int) []dtdlex.Part, cases []some) {
	t.Helper()
	for _, c := range cases {
		if got := told(c.s, parts(rows.Of(c.s), 0, len(c.s))); got != c.want {
			t.Errorf("%q is %q, want %q", c.s, got, c.want)
		}
	}
}

// P9.1: blanks, names, quotes of both kinds, and each other rune.
func TestWordsOfSome(t *testing.T) {
	toldAs(t, dtdlex.Words, []some{
		{"", ""},
		{"a", "Na"},
		{" \t\r\n", "S \t\r\n"},
		{"a b", "Na|S |Nb"},
		{"a:b.c-1 1a", "Na:b.c-1|S |J1|Na"},
		{"-a--", "J-|Na--"},
		{"\x02\x03\x04\x03", "N\x02\x03|J\x04|J\x03"},
		{"''", "Q''"},
		{`""`, `Q""`},
		{`'a"b'`, `Q'a"b'`},
		{`"a'b"`, `Q"a'b"`},
		{"'a''b'", "Q'a'|Q'b'"},
		{"'", "J'"},
		{`"`, `J"`},
		{"'a", "J'|Na"},
		{`'a"`, `J'|Na|J"`},
		{`'"a"`, `J'|Q"a"`},
		{"'''", "Q''|J'"},
		{"'[<!-- %a; >\n\x01'", "Q'[<!-- %a; >\n\x01'"},
		{"<!ENTITY % a 'b'>", "J<|J!|NENTITY|S |J%|S |Na|S |Q'b'|J>"},
		{"%a;", "J%|Na|J;"},
		{"[]", "J[|J]"},
		{"[a>", "J[|Na|J>"},
		{">", "J>"},
		{"<!DOCTYPE", "J<|J!|NDOCTYPE"},
		{"\x01\x01 \x01", "J\x01|J\x01|S |J\x01"},
		{"(a|b)*", "J(|Na|J||Nb|J)|J*"},
		{"#PCDATA", "J#|NPCDATA"},
	})
}

// P9.1: items, and what is none.
func TestItemsOfSome(t *testing.T) {
	toldAs(t, dtdlex.Items, []some{
		{"", ""},
		{" \t\r\n", "S \t\r\n"},
		{"<!ENTITY a 'b'> <?c d?><!-- e -->%f;\n", "D<!ENTITY a 'b'>|S |P<?c d?>|M<!-- e -->|R%f;|S\n"},
		{"ab", "Ja|Jb"},
		{"'a'", "J'|Ja|J'"},
		{"'<!a>'", "J'|D<!a>|J'"},
		{"\x01\x02\x03", "J\x01|J\x02|J\x03"},
		{"<", "J<"},
		{"<a>", "J<|Ja|J>"},
		{"</a>", "J<|J/|Ja|J>"},
		{"[a]>", "J[|Ja|J]|J>"},
	})
}

// P9.1: a comment ends with the first end that begins four runes further on, or later.
func TestComments(t *testing.T) {
	toldAs(t, dtdlex.Items, []some{
		{"<!---->", "M<!---->"},
		{"<!----->", "M<!----->"},
		{"<!--a--b-->-->", "M<!--a--b-->|J-|J-|J>"},
		{"<!-->-->", "M<!-->-->"},
		{"<!--->-->", "M<!--->-->"},
		{"<!-->", spelled("<!-->")},
		{"<!--->", spelled("<!--->")},
		{"<!--", spelled("<!--")},
		{"<!--a-- >", spelled("<!--a--") + "|S |J>"},
		{"<!--a><!b>", spelled("<!--a>") + "|D<!b>"},
		{"<!--'-->'-->", "M<!--'-->|J'|J-|J-|J>"},
		{"<!--<!--a-->", "M<!--<!--a-->"},
		{"<!--%a;<?b?>\x01-->", "M<!--%a;<?b?>\x01-->"},
		{"<!-- --><!-->", "M<!-- -->|" + spelled("<!-->")},
		{"<!-->a<!--b-->", "M<!-->a<!--b-->"},
		{"<!- -->", "D<!- -->"},
		{"<!->", "D<!->"},
	})
}

// P9.1: a processing instruction ends with the first end that begins two runes further on, or later.
func TestPIs(t *testing.T) {
	toldAs(t, dtdlex.Items, []some{
		{"<??>", "P<??>"},
		{"<???>", "P<???>"},
		{"<?>?>", "P<?>?>"},
		{"<?>", spelled("<?>")},
		{"<?", spelled("<?")},
		{"<?a?", spelled("<?a?")},
		{"<?a? >", spelled("<?a?") + "|S |J>"},
		{"<?a?>?>", "P<?a?>|J?|J>"},
		{"<?'?>'?>", "P<?'?>|J'|J?|J>"},
		{"<?<!a>?>", "P<?<!a>?>"},
		{"<?><!a>", spelled("<?>") + "|D<!a>"},
		{"<?a<?b?>", "P<?a<?b?>"},
		{"<?a?><?>", "P<?a?>|" + spelled("<?>")},
		{"<?<!---->", spelled("<?") + "|M<!---->"},
	})
}

// P9.1: a declaration ends with the first > in no quotes.
func TestDeclarations(t *testing.T) {
	toldAs(t, dtdlex.Items, []some{
		{"<!a>", "D<!a>"},
		{"<!>", "D<!>"},
		{"<!>>", "D<!>|J>"},
		{"<!", spelled("<!")},
		{"<!a", spelled("<!a")},
		{"<!'>'>", "D<!'>'>"},
		{`<!">">`, `D<!">">`},
		{`<!"'>">'>`, `D<!"'>">|J'|J>`},
		{`<!'">'>`, `D<!'">'>`},
		{"<!'>", spelled("<!'>")},
		{`<!">`, spelled(`<!">`)},
		{`<!'>">`, spelled(`<!'>">`)},
		{`<!'a'b">`, spelled(`<!'a'b">`)},
		{"<!'<!>", spelled("<!'") + "|D<!>"},
		{`<!'<!"<!>`, spelled(`<!'<!"`) + "|D<!>"},
		{"<!<!>", "D<!<!>"},
		{"<!<!'>", spelled("<!<!'>")},
		{"<!a%b;>", "D<!a%b;>"},
		{"<!a<!--'>'-->", "D<!a<!--'>'-->"},
		{"<!a --'>-->", spelled("<!a") + "|S |" + spelled("--'>-->")},
		{"<![a[<!b>]]>", "D<![a[<!b>|J]|J]|J>"},
		{"<!'?>\x01'\x01>", "D<!'?>\x01'\x01>"},
		{"<! a>", "D<! a>"},
		{"< !a>", "J<|S |J!|Ja|J>"},
	})
}

// P9.1: references have a name, and a semicolon.
func TestPERefs(t *testing.T) {
	toldAs(t, dtdlex.Items, []some{
		{"%a;", "R%a;"},
		{"%a:b-1.\x02\x03;", "R%a:b-1.\x02\x03;"},
		{"%:;", "R%:;"},
		{"%a;%b;;", "R%a;|R%b;|J;"},
		{"%", "J%"},
		{"%;", "J%|J;"},
		{"% a;", "J%|S |Ja|J;"},
		{"%1;", "J%|J1|J;"},
		{"%\x03;", "J%|J\x03|J;"},
		{"%%a;", "J%|R%a;"},
		{"%a", "J%|Ja"},
		{"%ab", "J%|Ja|Jb"},
		{"%a ;", "J%|Ja|S |J;"},
		{"%a%b;", "J%|Ja|R%b;"},
		{"%a<!b>", "J%|Ja|D<!b>"},
		{"%a\x04;", "J%|Ja|J\x04|J;"},
		{"%#1;", "J%|J#|J1|J;"},
		{"&a;", "J&|Ja|J;"},
	})
}

// P9.1: a document type's parts, with a subset and without.
func TestPartsOfSome(t *testing.T) {
	toldAs(t, dtdlex.Parts, []some{
		{"", ""},
		{"<!DOCTYPE a>", "O<!DOCTYPE|S |Na|C>"},
		{"<!DOCTYPE a SYSTEM 'b' [%c;]>", "O<!DOCTYPE|S |Na|S |NSYSTEM|S |Q'b'|S |B[|I%c;|B]|C>"},
		{"<!DOCTYPE", "O<!DOCTYPE"},
		{"<!DOCTYPE>", "O<!DOCTYPE|C>"},
		{"<!DOCTYPEa>", "O<!DOCTYPE|Na|C>"},
		{"<!DOCTYPE<!DOCTYPE>", "O<!DOCTYPE|J<|J!|NDOCTYPE|C>"},
		{"<!DOCTYPE >> >", "O<!DOCTYPE|S |J>|J>|S |C>"},
		{"<!DOCTYPE> ", "O<!DOCTYPE|J>|S "},
		{"<!DOCTYPE '>", "O<!DOCTYPE|S |J'|C>"},
		{"<!DOCTYPE '>'", "O<!DOCTYPE|S |Q'>'"},
		{"<!DOCTYPE -->", "O<!DOCTYPE|S |J-|J-|C>"},
		{"<!DOCTYPE []>", "O<!DOCTYPE|S |B[|B]|C>"},
		{"<!DOCTYPE [ ]>", "O<!DOCTYPE|S |B[|I |B]|C>"},
		{"<!DOCTYPE[", "O<!DOCTYPE|B["},
		{"<!DOCTYPE[]", "O<!DOCTYPE|B[|B]"},
		{"<!DOCTYPE[a", "O<!DOCTYPE|B[|Ia"},
		{"<!DOCTYPE[a>", "O<!DOCTYPE|B[|Ia>"},
		{"<!DOCTYPE[>", "O<!DOCTYPE|B[|I>"},
		{"<!DOCTYPE[>]", "O<!DOCTYPE|B[|I>|B]"},
		{"<!DOCTYPE[>]>", "O<!DOCTYPE|B[|I>|B]|C>"},
		{"<!DOCTYPE[[]>", "O<!DOCTYPE|B[|I[|B]|C>"},
		{"<!DOCTYPE[][]>", "O<!DOCTYPE|B[|B]|J[|J]|C>"},
		{"<!DOCTYPE[a][b]>", "O<!DOCTYPE|B[|Ia|B]|J[|Nb|J]|C>"},
		{"<!DOCTYPE[]]>", "O<!DOCTYPE|B[|B]|J]|C>"},
		{"<!DOCTYPE][]>", "O<!DOCTYPE|J]|B[|B]|C>"},
		{"<!DOCTYPE[] a 'b'>", "O<!DOCTYPE|B[|B]|S |Na|S |Q'b'|C>"},
		{`<!DOCTYPE '[' "]" [c]>`, `O<!DOCTYPE|S |Q'['|S |Q"]"|S |B[|Ic|B]|C>`},
		{"<!DOCTYPE '[c]>", "O<!DOCTYPE|S |J'|B[|Ic|B]|C>"},
		{"<!DOCTYPE '[c]>'", "O<!DOCTYPE|S |Q'[c]>'"},
		{"<!DOCTYPE[']'>", "O<!DOCTYPE|B[|I'|B]|J'|C>"},
		{"<!DOCTYPE['] '>", "O<!DOCTYPE|B[|I'|B]|S |J'|C>"},
		{"<!DOCTYPE[] ']'>", "O<!DOCTYPE|B[|B]|S |Q']'|C>"},
		{"<!DOCTYPE[<!--]-->]>", "O<!DOCTYPE|B[|I<!--]-->|B]|C>"},
		{"<!DOCTYPE[<!-->]-->]>", "O<!DOCTYPE|B[|I<!-->]-->|B]|C>"},
		{"<!DOCTYPE[<!--]>", "O<!DOCTYPE|B[|I<!--]>"},
		{"<!DOCTYPE[<!-->]>", "O<!DOCTYPE|B[|I<!-->]>"},
		{"<!DOCTYPE[<!--->]>", "O<!DOCTYPE|B[|I<!--->]>"},
		{"<!DOCTYPE[<!-- [ --> ]>", "O<!DOCTYPE|B[|I<!-- [ --> |B]|C>"},
		{"<!DOCTYPE[<?]?>]>", "O<!DOCTYPE|B[|I<?]?>|B]|C>"},
		{"<!DOCTYPE[<?>]?>]>", "O<!DOCTYPE|B[|I<?>]?>|B]|C>"},
		{"<!DOCTYPE[<?]>", "O<!DOCTYPE|B[|I<?]>"},
		{"<!DOCTYPE[<?>]>", "O<!DOCTYPE|B[|I<?>]>"},
		{"<!DOCTYPE[<!a ]>]>", "O<!DOCTYPE|B[|I<!a ]>|B]|C>"},
		{"<!DOCTYPE[<!a ']>'>]>", "O<!DOCTYPE|B[|I<!a ']>'>|B]|C>"},
		{`<!DOCTYPE[<!a "]>'">]>'`, `O<!DOCTYPE|B[|I<!a "]>'">|B]|J>|J'`},
		{"<!DOCTYPE[<!a ']>]>", "O<!DOCTYPE|B[|I<!a ']>]>"},
		{"<!DOCTYPE[<a ]>]>", "O<!DOCTYPE|B[|I<a ]>|B]|C>"},
		{"<!DOCTYPE[<]>]>", "O<!DOCTYPE|B[|I<]>|B]|C>"},
		{"<!DOCTYPE[<]]", "O<!DOCTYPE|B[|I<]]"},
		{"<!DOCTYPE[<![CDATA[ ]>]]>", "O<!DOCTYPE|B[|I<![CDATA[ ]>|B]|J]|C>"},
		{"<!DOCTYPE[%a]>", "O<!DOCTYPE|B[|I%a|B]|C>"},
		{"<!DOCTYPE \x01[\x01]\x01>", "O<!DOCTYPE|S |J\x01|B[|I\x01|B]|J\x01|C>"},
	})
}

// P9.1: without its sign at the first place there are only words.
func TestPartsOfNoDoctype(t *testing.T) {
	toldAs(t, dtdlex.Parts, []some{
		{" <!DOCTYPE a>", "S |J<|J!|NDOCTYPE|S |Na|J>"},
		{"<!DOCTYP [a]>", "J<|J!|NDOCTYP|S |J[|Na|J]|J>"},
		{"<!doctype a>", "J<|J!|Ndoctype|S |Na|J>"},
		{"<! DOCTYPE>", "J<|J!|S |NDOCTYPE|J>"},
		{"<!DOCTYP", "J<|J!|NDOCTYP"},
		{"a[<!--]-->]>", "Na|J[|J<|J!|J-|J-|J]|J-|J-|J>|J]|J>"},
		{"[]", "J[|J]"},
		{">", "J>"},
	})
}

// P9.1: of what ends only beyond the last place.
func TestPartsUpToPlaces(t *testing.T) {
	const s = "<!DOCTYPE a 'b'[<!--c--><?d?><!e>%f;]>"
	for _, c := range []struct {
		parts    func(l []rune, from, to int) []dtdlex.Part
		from, to int
		want     string
	}{
		{dtdlex.Parts, 0, 0, ""},
		{dtdlex.Parts, 0, 8, "J<|J!|NDOCTYP"},
		{dtdlex.Parts, 0, 14, "O<!DOCTYPE|S |Na|S |J'|Nb"},
		{dtdlex.Parts, 0, 15, "O<!DOCTYPE|S |Na|S |Q'b'"},
		{dtdlex.Parts, 0, 16, "O<!DOCTYPE|S |Na|S |Q'b'|B["},
		{dtdlex.Parts, 0, 23, "O<!DOCTYPE|S |Na|S |Q'b'|B[|I<!--c--"},
		{dtdlex.Parts, 0, 36, "O<!DOCTYPE|S |Na|S |Q'b'|B[|I<!--c--><?d?><!e>%f;"},
		{dtdlex.Parts, 0, 37, "O<!DOCTYPE|S |Na|S |Q'b'|B[|I<!--c--><?d?><!e>%f;|B]"},
		{dtdlex.Parts, 2, 12, "NDOCTYPE|S |Na|S "},
		{dtdlex.Parts, 37, 38, "J>"},
		{dtdlex.Words, 3, 15, "NOCTYPE|S |Na|S |Q'b'"},
		{dtdlex.Words, 3, 14, "NOCTYPE|S |Na|S |J'|Nb"},
		{dtdlex.Words, 3, 4, "NO"},
		{dtdlex.Items, 16, 24, "M<!--c-->"},
		{dtdlex.Items, 16, 23, spelled("<!--c--")},
		{dtdlex.Items, 24, 29, "P<?d?>"},
		{dtdlex.Items, 24, 28, spelled("<?d?")},
		{dtdlex.Items, 29, 33, "D<!e>"},
		{dtdlex.Items, 29, 32, spelled("<!e")},
		{dtdlex.Items, 33, 36, "R%f;"},
		{dtdlex.Items, 33, 35, spelled("%f")},
		{dtdlex.Items, 36, 36, ""},
	} {
		if got := told(s, c.parts(rows.Of(s), c.from, c.to)); got != c.want {
			t.Errorf("from %d up to %d is %q, want %q", c.from, c.to, got, c.want)
		}
	}
}

// P9.1, P9.2: of places that may not be there is nothing.
func TestPlacesThatMayNotBe(t *testing.T) {
	for _, s := range []string{"", "<!DOCTYPE a [<!b>]>"} {
		places := []int{math.MinInt, -1, 0, 1, len(s), len(s) + 1, math.MaxInt32, math.MaxInt}
		for _, from := range places {
			for _, to := range places {
				if from >= 0 && to >= from && to <= len(s) {
					continue
				}
				// Behind the end, within the row's capacity, is none of it.
				l := append(rows.Of(s), rows.Of("<!DOCTYPE a>")...)[:len(s)]
				if len(dtdlex.Parts(l, from, to)) != 0 || len(dtdlex.Items(l, from, to)) != 0 || len(dtdlex.Words(l, from, to)) != 0 {
					t.Errorf("from %d up to %d of %q are parts", from, to, s)
				}
				if got := dtdlex.Read(l, from, to); got != (dtdlex.Head{}) {
					t.Errorf("Read(%q, %d, %d) = %v", s, from, to, got)
				}
			}
		}
	}
	if len(dtdlex.Parts(nil, 0, 0)) != 0 || len(dtdlex.Items(nil, 0, 0)) != 0 || len(dtdlex.Words(nil, 0, 0)) != 0 {
		t.Error("no runes have parts")
	}
	if got := dtdlex.Read(nil, 0, 0); got != (dtdlex.Head{}) {
		t.Errorf("no runes have the head %v", got)
	}
}

// what tells a head: its parts' runes, each behind a letter of its own.
func what(s string, h dtdlex.Head) string {
	var told []string
	for _, p := range []struct {
		letter string
		part   dtdlex.Part
	}{{"n", h.Name}, {"p", h.Public}, {"s", h.System}, {"i", h.Subset}} {
		if p.part != (dtdlex.Part{}) {
			told = append(told, p.letter+s[p.part.From:p.part.To])
		}
	}
	return strings.Join(told, "|")
}

// P9.2: right heads.
func TestReadOfRightHeads(t *testing.T) {
	for _, c := range []some{
		{"<!DOCTYPE a>", "na"},
		{"<!DOCTYPE \t\r\na:b.c \n>", "na:b.c"},
		{"<!DOCTYPE :>", "n:"},
		{"<!DOCTYPE SYSTEM>", "nSYSTEM"},
		{"<!DOCTYPE PUBLIC>", "nPUBLIC"},
		{"<!DOCTYPE a[]>", "na"},
		{"<!DOCTYPE a []>", "na"},
		{"<!DOCTYPE a [] >", "na"},
		{"<!DOCTYPE a[ ]>", "na|i "},
		{"<!DOCTYPE a [>\x01(] >", "na|i>\x01("},
		{"<!DOCTYPE a [[<!--]-->] >", "na|i[<!--]-->"},
		{"<!DOCTYPE a SYSTEM 'b'>", "na|s'b'"},
		{"<!DOCTYPE a SYSTEM ''>", "na|s''"},
		{"<!DOCTYPE a SYSTEM \"'{\x01>[\" >", "na|s\"'{\x01>[\""},
		{"<!DOCTYPE a\tSYSTEM\n'b'[%c;]>", "na|s'b'|i%c;"},
		{"<!DOCTYPE a SYSTEM 'b' [%c;]>", "na|s'b'|i%c;"},
		{"<!DOCTYPE a SYSTEM 'b'\n[] >", "na|s'b'"},
		{"<!DOCTYPE SYSTEM SYSTEM 'SYSTEM'>", "nSYSTEM|s'SYSTEM'"},
		{"<!DOCTYPE a PUBLIC 'b' 'c'>", "na|p'b'|s'c'"},
		{"<!DOCTYPE a PUBLIC '' \"\" >", "na|p''|s\"\""},
		{"<!DOCTYPE a PUBLIC \"-//B'C//D 1.0\"\n'{'[e]>", "na|p\"-//B'C//D 1.0\"|s'{'|ie"},
		{"<!DOCTYPE a PUBLIC '\r\n-()+,./:=?;!*#@$_%' 'c' []>", "na|p'\r\n-()+,./:=?;!*#@$_%'|s'c'"},
		{"<!DOCTYPE PUBLIC PUBLIC 'PUBLIC' 'SYSTEM'>", "nPUBLIC|p'PUBLIC'|s'SYSTEM'"},
	} {
		got := dtdlex.Read(rows.Of(c.s), 0, len(c.s))
		if told := what(c.s, got); told != c.want || !got.Right {
			t.Errorf("Read(%q) is %q, Right %v, want %q", c.s, told, got.Right, c.want)
		}
		for _, p := range []struct {
			kind int
			part dtdlex.Part
		}{{dtdlex.Name, got.Name}, {dtdlex.Quoted, got.Public}, {dtdlex.Quoted, got.System}, {dtdlex.Sub, got.Subset}} {
			if p.part != (dtdlex.Part{}) && p.part.Kind != p.kind {
				t.Errorf("Read(%q) has the part %v, want the kind %d", c.s, p.part, p.kind)
			}
		}
	}
}

// P9.2: of heads that are not right there is nothing.
func TestReadOfWrongHeads(t *testing.T) {
	for _, s := range []string{
		"",
		">",
		"<!DOCTYPE",
		"<!DOCTYPE>",
		"<!DOCTYPE >",
		"<!DOCTYPEa>",
		"<!DOCTYPE 1a>",
		"<!DOCTYPE 'a'>",
		"<!DOCTYPE []>",
		"<!DOCTYPE SYSTEM 'b'>",
		"<!DOCTYPE a",
		"<!DOCTYPE a ",
		"<!DOCTYPE a> ",
		"<!DOCTYPE a>>",
		"<!DOCTYPE a b>",
		"<!DOCTYPE a,>",
		"<!DOCTYPE a 'b'>",
		"<!DOCTYPE a\x01>",
		" <!DOCTYPE a>",
		"<!DOCTYP a>",
		"<!doctype a>",
		"<!DOCTYPE a SYSTEM>",
		"<!DOCTYPE a SYSTEM >",
		"<!DOCTYPE a SYSTEM'b'>",
		"<!DOCTYPE a SYSTEM b>",
		"<!DOCTYPE a SYSTEM 'b>",
		"<!DOCTYPE a SYSTEM 'b\">",
		"<!DOCTYPE a SYSTEM 'b'",
		"<!DOCTYPE a SYSTEM 'b' 'c'>",
		"<!DOCTYPE a SYSTEM 'b''c'>",
		"<!DOCTYPE a SYSTEM 'b' c>",
		"<!DOCTYPE a SYSTEM 'b' SYSTEM 'b'>",
		"<!DOCTYPE a 'b' SYSTEM>",
		"<!DOCTYPE a SYSTEM []>",
		"<!DOCTYPE a system 'b'>",
		"<!DOCTYPE a SYSTEMS 'b'>",
		"<!DOCTYPE a SYSTE 'b'>",
		"<!DOCTYPE a OTHERS 'b'>",
		"<!DOCTYPE a PUBLIC>",
		"<!DOCTYPE a PUBLIC 'b'>",
		"<!DOCTYPE a PUBLIC 'b' >",
		"<!DOCTYPE a PUBLIC 'b''c'>",
		"<!DOCTYPE a PUBLIC'b' 'c'>",
		"<!DOCTYPE a PUBLIC 'b' c>",
		"<!DOCTYPE a PUBLIC 'b' 'c' 'd'>",
		"<!DOCTYPE a PUBLIC 'b' 'c'",
		"<!DOCTYPE a PUBLIC '{' 'c'>",
		"<!DOCTYPE a PUBLIC '\t' 'c'>",
		"<!DOCTYPE a PUBLIC '\"' 'c'>",
		"<!DOCTYPE a PUBLIC 'b&' 'c'>",
		"<!DOCTYPE a PUBLIC '\x02b' 'c'>",
		"<!DOCTYPE a PUBLIC '\x01' 'c'>",
		"<!DOCTYPE a public 'b' 'c'>",
		"<!DOCTYPE a PUBLICS 'b' 'c'>",
		"<!DOCTYPE a OTHERS 'b' 'c'>",
		"<!DOCTYPE a SYSTEM 'b' PUBLIC 'b' 'c'>",
		"<!DOCTYPE a SYSTEM 'b' 'c' []>",
		"<!DOCTYPE a [",
		"<!DOCTYPE a [>",
		"<!DOCTYPE a [b>",
		"<!DOCTYPE a []",
		"<!DOCTYPE a [<!--]>",
		"<!DOCTYPE a ]>",
		"<!DOCTYPE a []]>",
		"<!DOCTYPE a [][]>",
		"<!DOCTYPE a [b] c>",
		"<!DOCTYPE a [b] SYSTEM 'c'>",
		"<!DOCTYPE a [] > ",
		"<!DOCTYPE [] a>",
	} {
		if got := dtdlex.Read(rows.Of(s), 0, len(s)); got != (dtdlex.Head{}) {
			t.Errorf("Read(%q) = %v", s, got)
		}
	}
}

// P9.1, P9.2: each rune is what its class says.
func TestPartsOfEachRune(t *testing.T) {
	public := rows.Of("<!DOCTYPE a PUBLIC 'b' ''>")
	for r := rune(-300); r <= 0x110001; r++ {
		want := dtdlex.Junk
		if class.Space(r) {
			want = dtdlex.Space
		}
		if got := dtdlex.Items([]rune{r}, 0, 1); !slices.Equal(got, []dtdlex.Part{{Kind: want, From: 0, To: 1}}) {
			t.Errorf("the item %x is %v", r, got)
		}
		if class.NameStart(r) {
			want = dtdlex.Name
		}
		if got := dtdlex.Words([]rune{r}, 0, 1); !slices.Equal(got, []dtdlex.Part{{Kind: want, From: 0, To: 1}}) {
			t.Errorf("the word %x is %v", r, got)
		}
		if got := len(dtdlex.Words([]rune{'a', r}, 0, 2)) == 1; got != class.NameChar(r) {
			t.Errorf("a and %x are one word: %v", r, got)
		}
		if got := len(dtdlex.Items([]rune{'%', r, ';'}, 0, 3)) == 1; got != class.NameStart(r) {
			t.Errorf("%x is a reference's name: %v", r, got)
		}
		public[20] = r
		if got, want := dtdlex.Read(public, 0, len(public)).Right, class.Pubid(r) && r != '\''; got != want {
			t.Errorf("%x is a public identifier: %v", r, got)
		}
	}
	for _, r := range []rune{math.MinInt32, math.MaxInt32} {
		l := []rune{'<', '!', r, '>', r}
		if got := dtdlex.Items(l, 0, len(l)); told("<!a>a", got) != "D<!a>|Ja" {
			t.Errorf("%x is %v", r, got)
		}
	}
}

// P9.3: parts, items and words lie one behind the other, none is empty, and all runes are in them.
func TestPartsHaveAllRunes(t *testing.T) {
	const ahead = 2
	parts := []string{"<!DOCTYPE", "<!--", "-->", "<?", "<!", "[", "]", ">", "'", "%", ";", " ", "a", "\x01"}
	rows.All(4, parts, func(s string) {
		l := rows.Of("<!" + s + "'>]")
		end := ahead + len(s)
		for _, parts := range [][]dtdlex.Part{dtdlex.Parts(l, ahead, end), dtdlex.Items(l, ahead, end), dtdlex.Words(l, ahead, end)} {
			at := ahead
			for _, p := range parts {
				if p.From != at || p.To <= p.From {
					t.Fatalf("of %q one is from %d up to %d, behind %d", s, p.From, p.To, at)
				}
				at = p.To
			}
			if at != end {
				t.Fatalf("of %q the last one ends at %d", s, at)
			}
		}
	})
}

// P1: rows as long as a document may be end, too, and soon: what does not end isn't looked for again and again.
func TestLongRows(t *testing.T) {
	for _, part := range []string{
		"<", "<!", "<!'", "<!\"'", "<!'<!\"", "<!--", "<?", "<!-->", "<?>", "<!><!'", "%", "%a", "a", " ", "'", "\"'", "[", "]>",
		"<!a '>'>", "<!---->", "<?a?>", "%a;",
	} {
		for _, c := range []struct {
			head  string
			parts func(l []rune, from, to int) []dtdlex.Part
		}{{"", dtdlex.Items}, {"", dtdlex.Words}, {"<!DOCTYPE a", dtdlex.Parts}, {"<!DOCTYPE a[", dtdlex.Parts}} {
			s := c.head + strings.Repeat(part, api.MaxBytes/len(part))
			if got := c.parts(rows.Of(s), 0, len(s)); len(got) == 0 || got[len(got)-1].To != len(s) {
				t.Errorf("what there is of %q and many %q does not go to the end", c.head, part)
			}
		}
	}
}

// The rules that hold everywhere, 4: a row that is handed in is not changed, and what is written into an answer is seen by no later one.
func TestPartsAreNew(t *testing.T) {
	const s = "<!DOCTYPE a SYSTEM 'b' [<!c><!-- d -->%e;] >"
	l := rows.Of(s)
	was := slices.Clone(l)
	head := dtdlex.Read(l, 0, len(l))
	for _, parts := range []func(l []rune, from, to int) []dtdlex.Part{dtdlex.Parts, dtdlex.Items, dtdlex.Words} {
		got := parts(l, 0, len(l))
		before := slices.Clone(got)
		clear(got)
		if again := parts(l, 0, len(l)); !slices.Equal(again, before) {
			t.Errorf("parts are %v after an answer was written into", again)
		}
	}
	if got := dtdlex.Read(l, 0, len(l)); got != head || !got.Right {
		t.Errorf("the head is %v after answers were written into", got)
	}
	if !slices.Equal(l, was) {
		t.Errorf("%x is %x now", was, l)
	}
}

package parse_test

import (
	"bytes"
	"fmt"
	"math"
	"math/rand"
	"slices"
	"strings"
	"testing"

	"rubric/api"
	"rubric/green"
	"rubric/lex"
	"rubric/name"
	"rubric/parse"
	"rubric/red"
	"rubric/rows"
	"rubric/scan"
	"rubric/sniff"
	"rubric/span"
	"rubric/tag"
)

// letters are the kinds of tokens, from 1 on, as trees are told here.
const letters = "?TRNCPDYSEZB"

// leaf tells a leaf: its kind's letter, and its runes.
func leaf(kind int, l []rune) string {
	switch {
	case kind == parse.Mark && slices.Equal(l, []rune{0xFEFF}):
		return "^"
	case kind == parse.Missing && len(l) == 0:
		return "!"
	case kind > 0 && kind < len(letters):
		return letters[kind:kind+1] + text(l)
	}
	return fmt.Sprintf("<kind %d>%s", kind, text(l))
}

// text is a row's runes as a text; what is none stands as in the rows of tests.
func text(l []rune) string {
	var s strings.Builder
	for _, r := range l {
		if r == api.Bad {
			r = rows.Bad
		}
		s.WriteRune(r)
	}
	return s.String()
}

// told tells what is below a node of a tree: leaves one behind the other, elements in brackets.
func told(x parse.Tree, n int) string {
	if x.A.Leafy(n) {
		var l []rune
		for _, p := range sniff.Pieces(x.Text.Kind, x.A.Bytes(n)) {
			l = append(l, p.R)
		}
		return leaf(x.A.Kind(n), l)
	}
	var kids []string
	for _, kid := range x.A.Kids(n) {
		kids = append(kids, told(x, kid))
	}
	all := strings.Join(kids, "|")
	switch {
	case x.A.Kind(n) == parse.Elem && n != x.Root:
		return "(" + all + ")"
	case x.A.Kind(n) == parse.Doc && n == x.Root:
		return all
	}
	return fmt.Sprintf("<branch %d>(%s)", x.A.Kind(n), all)
}

// reader tells the tree of a row of runes as the chapter has it, each element by a call of its own.
type reader struct {
	l      []rune
	tokens []lex.Token
	at     int        // the next token
	names  []string   // of those that are open
	wrong  []wrongful // what is wrong, by places in the row
}

// wrongful is what is wrong, from one rune up to another one.
type wrongful struct{ code, from, to int }

// none says that a token closes no element that is still open.
const none = -1

// next is the next token, as it is told, and the name it has, if it is a whole tag.
func (r *reader) next() (lex.Token, string, string) {
	t := r.tokens[r.at]
	told := leaf(t.Kind, r.l[t.From:t.To])
	if !t.Whole {
		r.wrong = append(r.wrong, wrongful{parse.IsBroken, t.From, t.To})
		return t, told, ""
	}
	if t.Kind != lex.Start && t.Kind != lex.Empty && t.Kind != lex.End {
		return t, told, ""
	}
	read := tag.Read(r.l, t.From, t.To)
	if !read.Right || t.Kind == lex.End && len(read.Attrs) > 0 {
		r.wrong = append(r.wrong, wrongful{parse.IsTag, t.From, t.To})
	}
	return t, told, text(r.l[read.Name.From:read.Name.To])
}

// inside tells what stands in an element that is so deep, and which one that is open is closed then: 0 at the end.
func (r *reader) inside(depth int) ([]string, int) {
	var kids []string
	for ; r.at < len(r.tokens); r.at++ {
		t, told, name := r.next()
		outer := none
		switch {
		case name == "" && (t.Kind != lex.End || !t.Whole):
			kids = append(kids, told)
		case t.Kind == lex.Start && depth < 64:
			told, outer = r.element(told, name, depth+1)
			kids = append(kids, told)
		case t.Kind == lex.Start:
			r.wrong = append(r.wrong, wrongful{parse.IsDeep, t.From, t.To})
			kids = append(kids, told)
		case t.Kind == lex.Empty:
			kids = append(kids, told)
		default:
			outer = r.closes(name, depth)
			if outer == none {
				r.wrong = append(r.wrong, wrongful{parse.IsStray, t.From, t.To})
				kids = append(kids, told)
			}
		}
		if outer != none {
			return kids, outer
		}
	}
	return kids, 0
}

// closes is which one that is open an end tag closes.
func (r *reader) closes(name string, depth int) int {
	found := none
	for i, n := range r.names[:depth] {
		if n == name && name != "" {
			found = i + 1
		}
	}
	return found
}

// element tells the one that begins with the token at which the reader stands, and goes to the last token that is read; it tells which outer one that one closes.
func (r *reader) element(start, name string, depth int) (string, int) {
	r.names = append(r.names[:depth-1], name)
	r.at++
	kids, outer := r.inside(depth)
	kids = append([]string{start}, kids...)
	if outer == depth {
		t := r.tokens[r.at]
		kids = append(kids, leaf(t.Kind, r.l[t.From:t.To]))
		return "(" + strings.Join(kids, "|") + ")", none
	}
	place := len(r.l)
	if r.at < len(r.tokens) {
		place = r.tokens[r.at].From
	}
	r.wrong = append(r.wrong, wrongful{parse.IsMissing, place, place})
	return "(" + strings.Join(append(kids, "!"), "|") + ")", outer
}

// reading is the tree of a row, as it is told, and what is wrong.
func reading(l []rune) (string, []wrongful) {
	r := &reader{l: l, tokens: lex.Tokens(l)}
	kids, _ := r.inside(0)
	return strings.Join(kids, "|"), r.wrong
}

// form is a kind of bytes: their mark, and what stands there for bytes that are no rune.
type form struct {
	kind      int
	mark, bad string
}

// forms are all kinds in which each row can stand.
var forms = []form{
	{sniff.Eight, "", "\xFF"},
	{sniff.Eight, "\xEF\xBB\xBF", "\x80"},
	{sniff.Big, "\xFE\xFF", "\xDC\x00"},
	{sniff.Little, "\xFF\xFE", "\xFF\xDF"},
}

// bytes are those of a row, and where each rune begins, and the last one ends.
func (f form) bytes(l []rune) ([]byte, []int) {
	b := []byte(f.mark)
	off := []int{len(b)}
	for _, r := range l {
		if r == api.Bad {
			b = append(b, f.bad...)
		} else {
			b = append(b, sniff.Encode(f.kind, r)...)
		}
		off = append(off, len(b))
	}
	return b, off
}

// want is what a tree is to be: the text, the bytes, how the tree is told, what is wrong.
type want struct {
	text  sniff.Text
	b     []byte
	told  string
	wrong []wrongful
}

// hold holds a tree against what it is to be.
func (w want) hold(t *testing.T, x parse.Tree) {
	t.Helper()
	if x.Text.Kind != w.text.Kind || x.Text.Bom != w.text.Bom || !slices.Equal(x.Text.R, w.text.R) || !slices.Equal(x.Text.Off, w.text.Off) {
		t.Fatalf("of %q the text is %v, want %v", w.b, x.Text, w.text)
	}
	if got := told(x, x.Root); got != w.told {
		t.Fatalf("of %q the tree is %q, want %q", w.b, got, w.told)
	}
	var diags []span.Diag
	for _, d := range w.wrong {
		diags = append(diags, span.Diag{At: span.Span{From: w.text.Off[d.from], To: w.text.Off[d.to]}, Code: d.code})
	}
	if !slices.Equal(x.Diags, diags) {
		t.Fatalf("of %q %v is wrong, want %v", w.b, x.Diags, diags)
	}
	if got := x.Print(); !bytes.Equal(got, w.b) {
		t.Fatalf("of %q the tree prints %q", w.b, got)
	}
	w.nodes(t, x)
}

// nodes holds what is told of each node of a tree, by its cursor, against the bytes and the text.
func (w want) nodes(t *testing.T, x parse.Tree) {
	t.Helper()
	c := x.Cursor()
	if c.Node() != x.Root || c.Span() != (span.Span{From: 0, To: len(w.b)}) || len(c.Path()) != 0 {
		t.Fatalf("of %q the cursor is at node %d, %v, path %v", w.b, c.Node(), c.Span(), c.Path())
	}
	walk := c.Walk(math.MaxInt)
	if len(walk) != x.A.Count(x.Root) {
		t.Fatalf("of %q there are %d cursors, and %d nodes", w.b, len(walk), x.A.Count(x.Root))
	}
	for _, c := range walk {
		n, at := c.Node(), c.Span()
		if own := x.A.Print(n); !bytes.Equal(own, w.b[at.From:at.To]) || x.A.Width(n) != len(own) {
			t.Fatalf("of %q the node at %v prints %q, and has width %d", w.b, at, own, x.A.Width(n))
		}
		if got := x.Runes(n); !slices.Equal(got, w.runes(at)) {
			t.Fatalf("of %q the node at %v has the runes %x, want %x", w.b, at, got, w.runes(at))
		}
		if got := x.Name(n); got != w.named(c) {
			t.Fatalf("of %q the node at %v has the name %q, want %q", w.b, at, got, w.named(c))
		}
		if got := x.Elements(n); !slices.Equal(got, elements(c)) {
			t.Fatalf("of %q the node at %v has the elements %v, want %v", w.b, at, got, elements(c))
		}
	}
}

// runes are those with bytes within a span of bytes, by the text; a mark is the rune FEFF.
func (w want) runes(at span.Span) []rune {
	var l []rune
	if w.text.Bom > 0 && at.From == 0 && at.To > 0 {
		l = append(l, 0xFEFF)
	}
	for i, r := range w.text.R {
		if from, to := w.text.Off[i], w.text.Off[i+1]; from >= at.From && to <= at.To && from < to {
			l = append(l, r)
		}
	}
	return l
}

// named is the name of what a cursor stands at: only elements have kids, and theirs is the first one's.
func (w want) named(c red.Cursor) string {
	if c.Kind() == parse.Elem {
		c, _ = c.Down(0)
	}
	l := w.runes(c.Span())
	ahead := 1
	switch c.Kind() {
	case lex.End:
		ahead = 2
	case lex.Start, lex.Empty:
	default:
		return ""
	}
	return string(l[ahead : ahead+name.Lead(l, ahead)])
}

// elements are the kids that are elements of what a cursor stands at.
func elements(c red.Cursor) []int {
	var l []int
	for kid, ok := c.Down(0); ok; kid, ok = kid.Next() {
		if kid.Kind() == parse.Elem || kid.Kind() == lex.Empty {
			l = append(l, kid.Node())
		}
	}
	return l
}

// holds holds the trees of a row, in bytes of each kind, and of its runes, against how they are to be told.
func holds(t *testing.T, l []rune, told string, wrong []wrongful) {
	t.Helper()
	for _, f := range forms {
		b, off := f.bytes(l)
		w := want{sniff.Text{Kind: f.kind, Bom: len(f.mark), R: l, Off: off}, b, told, wrong}
		if f.mark != "" {
			w.told = strings.TrimSuffix("^|"+told, "|")
		}
		w.hold(t, parse.Parse(b))
	}
	f := form{kind: sniff.Eight}
	b, off := f.bytes(l)
	w := want{sniff.Text{Kind: sniff.Eight, R: l, Off: off}, b, strings.ReplaceAll(told, "\x01", ""), wrong}
	w.hold(t, parse.Of(l))
}

// agree holds the trees of a row against a reading of the chapter.
func agree(t *testing.T, s string) {
	t.Helper()
	l := rows.Of(s)
	told, wrong := reading(l)
	holds(t, l, told, wrong)
}

// P13.1 to P13.4: all short rows of tokens of all kinds, among them such as are not whole or not right.
func TestRowsOfTokens(t *testing.T) {
	rows.All(3, []string{
		"<a>", "<b>", "</a>", "</b>", "<a/>", "x", "&", "&e;", "&#65;", "\x01", "</>", "</ a>", "<a b>", "<b c='d'>", "</b c='d'>", "</a/>",
		"<b/ >", "<a b/>", "<a", "</a", "<", "<!--a-->", "<!--", "<?a?>", "<![CDATA[<a>]]>", "<!DOCTYPE a>", "<\x02\x03>", "</\x02\x03>", "<a\x01>",
	}, func(s string) { agree(t, s) })
}

// P13.1 to P13.4: tags of three names in every order, so that some close outer elements.
func TestRowsOfTags(t *testing.T) {
	rows.All(6, []string{"<a>", "<b>", "<c>", "</a>", "</b>", "</c>"}, func(s string) {
		l := rows.Of(s)
		told, wrong := reading(l)
		x := parse.Parse([]byte(s))
		want{sniff.Text{R: l, Off: sniff.Offsets(sniff.Eight, l)}, []byte(s), told, wrong}.hold(t, x)
	})
}

// P13.1 to P13.4: all short rows of signs.
func TestRowsOfSigns(t *testing.T) {
	rows.All(4, []string{"<", "/", ">", "a", " ", "'", "=", "&", ";", "\x01", "\x02"}, func(s string) {
		l := rows.Of(s)
		told, wrong := reading(l)
		b, off := forms[0].bytes(l)
		want{sniff.Text{R: l, Off: off}, b, told, wrong}.hold(t, parse.Parse(b))
	})
}

// P13.1 to P13.4: long rows of tokens by chance, where many elements are open.
func TestLongRowsOfTokens(t *testing.T) {
	chance := rand.New(rand.NewSource(13))
	some := []string{
		"<a>", "<b>", "<c>", "<d x='y'>", "<e f>", "</a>", "</b>", "</c>", "</d>", "</e g='h'>", "</>", "<a/>", "x", "&", "\x01", "</a", "<!-- -->",
	}
	for range 300 {
		starts := chance.Intn(60)
		var s strings.Builder
		for range chance.Intn(400) {
			if chance.Intn(100) < starts {
				s.WriteString(some[chance.Intn(5)])
			} else {
				s.WriteString(some[chance.Intn(len(some))])
			}
		}
		agree(t, s.String())
	}
}

// P13.1 to P13.4, P0.1: bytes by chance, of each kind; those that are no runes stand where they stand.
func TestBytesByChance(t *testing.T) {
	chance := rand.New(rand.NewSource(7))
	some := []string{
		"<", ">", "/", "a", "\x00", "\xFF", "\xFE", "\xD8", "\xDC", "\xEF\xBB\xBF", "\xFE\xFF", "\xFF\xFE", "\x00<", "<\x00", "\x00>", ">\x00",
		"\x00/", "/\x00", "\x00a", "a\x00", "\xC3", "\xA9", "\xC3\xA9", "\xF0\x9F\x98\x80", "\xD8\x3D\xDE\x00", "<a>", "</a>", "\x00<\x00?", "<\x00?\x00",
	}
	for range 20000 {
		var b []byte
		for range chance.Intn(24) {
			b = append(b, some[chance.Intn(len(some))]...)
		}
		text := sniff.Decode(b)
		told, wrong := reading(text.R)
		if text.Bom > 0 {
			told = strings.TrimSuffix("^|"+told, "|")
		}
		want{text, b, told, wrong}.hold(t, parse.Parse(b))
	}
}

// wrongs is what is wrong as it is told: the code, and from which rune up to which one.
func wrongs(s string) []wrongful {
	var l []wrongful
	for _, word := range strings.Fields(s) {
		var w wrongful
		if _, err := fmt.Sscanf(word, "%d:%d-%d", &w.code, &w.from, &w.to); err != nil {
			panic(word)
		}
		l = append(l, w)
	}
	return l
}

// P13.1: by hand, in bytes of each kind, and as runes. What is wrong is told by its code and its runes: 1 IsBroken, 2 IsTag, 3 IsStray, 4 IsMissing, 5 IsDeep.
func TestTreesOfSome(t *testing.T) {
	for _, c := range []struct{ s, tree, wrong string }{
		{"", "", ""}, // no bytes; or a mark and nothing else
		{"<a><b></a>", "(S<a>|(S<b>|!)|Z</a>)", "4:6-6"}, // the chapter's example
		{"x", "Tx", ""},
		{"<a/>", "E<a/>", ""},
		{"<a></a>", "(S<a>|Z</a>)", ""},
		{"<a>", "(S<a>|!)", "4:3-3"},
		{"</a>", "Z</a>", "3:0-4"},
		{"x<a>y</a>z", "Tx|(S<a>|Ty|Z</a>)|Tz", ""},
		{"<a>x&e;&#65;<!--c--><?p?><![CDATA[d]]></a>", "(S<a>|Tx|R&e;|N&#65;|C<!--c-->|P<?p?>|D<![CDATA[d]]>|Z</a>)", ""},
		{"<?xml version='1.0'?>\n<!DOCTYPE a [<!ENTITY e 'f'>]>\n<a/>\n", "P<?xml version='1.0'?>|T\n|Y<!DOCTYPE a [<!ENTITY e 'f'>]>|T\n|E<a/>|T\n", ""},
		{"<a>&</a>", "(S<a>|B&|Z</a>)", "1:3-4"},
		{"<a b='c'>x</a>", "(S<a b='c'>|Tx|Z</a>)", ""},
		{"<a\n>x</a\t>", "(S<a\n>|Tx|Z</a\t>)", ""},

		// One name, and which one is closed.
		{"<a><a/></a>", "(S<a>|E<a/>|Z</a>)", ""},
		{"<a/></a>", "E<a/>|Z</a>", "3:4-8"},
		{"<a><a></a></a>", "(S<a>|(S<a>|Z</a>)|Z</a>)", ""},
		{"<a><a></a>", "(S<a>|(S<a>|Z</a>)|!)", "4:10-10"},
		{"<a></a><a></a>", "(S<a>|Z</a>)|(S<a>|Z</a>)", ""},
		{"<a></a></a>", "(S<a>|Z</a>)|Z</a>", "3:7-11"},
		{"<a><b></a></b>", "(S<a>|(S<b>|!)|Z</a>)|Z</b>", "4:6-6 3:10-14"},
		{"<a><b><c>x</a>y", "(S<a>|(S<b>|(S<c>|Tx|!)|!)|Z</a>)|Ty", "4:10-10 4:10-10"},
		{"<a><b><c></b></a>", "(S<a>|(S<b>|(S<c>|!)|Z</b>)|Z</a>)", "4:9-9"},
		{"<a><b><a><c></a></a>", "(S<a>|(S<b>|(S<a>|(S<c>|!)|Z</a>)|!)|Z</a>)", "4:12-12 4:16-16"},
		{"<a><b><c>", "(S<a>|(S<b>|(S<c>|!)|!)|!)", "4:9-9 4:9-9 4:9-9"},
		{"<a></b></a>", "(S<a>|Z</b>|Z</a>)", "3:3-7"},
		{"<a><b></c>x</a>", "(S<a>|(S<b>|Z</c>|Tx|!)|Z</a>)", "3:6-10 4:11-11"},

		// Names as they stand.
		{"<a></A></a>", "(S<a>|Z</A>|Z</a>)", "3:3-7"},
		{"<aB></ab></aB>", "(S<aB>|Z</ab>|Z</aB>)", "3:4-9"},
		{"<ab></a></ab>", "(S<ab>|Z</a>|Z</ab>)", "3:4-8"},
		{"<a></ab></a>", "(S<a>|Z</ab>|Z</a>)", "3:3-8"},
		{"<p:a></a></p:a>", "(S<p:a>|Z</a>|Z</p:a>)", "3:5-9"},
		{"<p:a></q:a></p:a>", "(S<p:a>|Z</q:a>|Z</p:a>)", "3:5-11"},
		{"<\x02></e></\x02>", "(S<é>|Z</e>|Z</é>)", "3:3-7"},
		{"<a\x03></a></a\x03>", "(S<a·>|Z</a>|Z</a·>)", "3:4-8"},

		// Tags that are not right: their names count.
		{"<a b>x</a>", "(S<a b>|Tx|Z</a>)", "2:0-5"},
		{"<a b='c'd='e'></a>", "(S<a b='c'd='e'>|Z</a>)", "2:0-14"},
		{"<a b='<'></a>", "(S<a b='<'>|Z</a>)", ""},
		{"<a b/>", "E<a b/>", "2:0-6"},
		{"<a/b/>", "E<a/b/>", "2:0-6"},
		{"<a b/></a>", "E<a b/>|Z</a>", "2:0-6 3:6-10"},
		{"<a/ >x</a>", "(S<a/ >|Tx|Z</a>)", "2:0-5"},
		{"<a></a b>", "(S<a>|Z</a b>)", "2:3-9"},
		{"<a></a b='c'>", "(S<a>|Z</a b='c'>)", "2:3-13"},
		{"<a></a/>", "(S<a>|Z</a/>)", "2:3-8"},
		{"<a></a'b>", "(S<a>|Z</a'b>)", "2:3-9"},
		{"</a b='c'>", "Z</a b='c'>", "2:0-10 3:0-10"},
		{"<a></></a>", "(S<a>|Z</>|Z</a>)", "2:3-6 3:3-6"},
		{"</>", "Z</>", "2:0-3 3:0-3"},
		{"<a></ a></a>", "(S<a>|Z</ a>|Z</a>)", "2:3-8 3:3-8"},
		{"<a></1></a>", "(S<a>|Z</1>|Z</a>)", "2:3-7 3:3-7"},
		{"<a></-a></a>", "(S<a>|Z</-a>|Z</a>)", "2:3-8 3:3-8"},
		{"<a><b><c></a b='c'>", "(S<a>|(S<b>|(S<c>|!)|!)|Z</a b='c'>)", "2:9-19 4:9-9 4:9-9"},
		{"<a x><b y></a z>", "(S<a x>|(S<b y>|!)|Z</a z>)", "2:0-5 2:5-10 2:10-16 4:10-10"},

		// What is not whole opens and closes nothing, though it has a name.
		{"<a><b </a>", "(S<a>|S<b |Z</a>)", "1:3-6"},
		{"<a><b", "(S<a>|S<b|!)", "1:3-5 4:5-5"},
		{"<a b='></a>", "S<a b='></a>", "1:0-11"},
		{"<a></a", "(S<a>|Z</a|!)", "1:3-6 4:6-6"},
		{"<a></a<b/></a>", "(S<a>|Z</a|E<b/>|Z</a>)", "1:3-6"},
		{"<a></", "(S<a>|Z</|!)", "1:3-5 4:5-5"},
		{"<a><", "(S<a>|B<|!)", "1:3-4 4:4-4"},
		{"<a>&e", "(S<a>|B&|Te|!)", "1:3-4 4:5-5"},
		{"<a><!--</a>", "(S<a>|C<!--</a>|!)", "1:3-11 4:11-11"},
		{"<a><?b</a>", "(S<a>|P<?b</a>|!)", "1:3-10 4:10-10"},
		{"<a><![CDATA[</a>]>", "(S<a>|D<![CDATA[</a>]>|!)", "1:3-18 4:18-18"},
		{"<!DOCTYPE a [</a>", "Y<!DOCTYPE a [</a>", "1:0-17"},
		{"<a", "S<a", "1:0-2"},
		{"<a/", "S<a/", "1:0-3"},
		{"<1>", "B<|T1>", "1:0-1"},
		{"<!a>", "B<|T!a>", "1:0-1"},
		{"a>b", "Ta>b", ""},

		// Bytes that are no runes: of their own, or within what goes on beyond them.
		{"\x01", "B\x01", "1:0-1"},
		{"a\x01b", "Ta|B\x01|Tb", "1:1-2"},
		{"\x01\x01", "B\x01|B\x01", "1:0-1 1:1-2"},
		{"<a>\x01</a>", "(S<a>|B\x01|Z</a>)", "1:3-4"},
		{"<a></a>\x01", "(S<a>|Z</a>)|B\x01", "1:7-8"},
		{"<a>x\x01", "(S<a>|Tx|B\x01|!)", "1:4-5 4:5-5"},
		{"<\x01a>", "B<|B\x01|Ta>", "1:0-1 1:1-2"},
		{"<a\x01b></a>", "(S<a\x01b>|Z</a>)", "2:0-5"},
		{"<a\x01></a\x01>", "(S<a\x01>|Z</a\x01>)", "2:0-4 2:4-9"},
		{"</\x01a>", "Z</\x01a>", "2:0-5 3:0-5"},
		{"<a b='\x01'/>", "E<a b='\x01'/>", ""},
		{"<!--\x01-->", "C<!--\x01-->", ""},
		{"<a>&\x01;</a>", "(S<a>|B&|B\x01|T;|Z</a>)", "1:3-4 1:4-5"},
		{"<a>\x02\x04</a>\x01<b", "(S<a>|Té×|Z</a>)|B\x01|S<b", "1:9-10 1:10-12"},
	} {
		holds(t, rows.Of(c.s), c.tree, wrongs(c.wrong))
	}
}

// P13.1: names are held against one another by their runes, also such as look alike or mean the same.
func TestNamesThatLookAlike(t *testing.T) {
	for _, c := range [][2]string{
		{"a", "а"},       // of another script
		{"é", "e\u0301"}, // of one rune, and of two
		{"Å", "\u212B"},
		{"ﬁ", "fi"},
		{"K", "\u212A"}, // the same, but for their case
		{"ß", "ẞ"},
		{"𐐀", "𐐨"},
	} {
		for _, names := range [][2]string{c, {c[1], c[0]}} {
			start, end := "<"+names[0]+">", "</"+names[1]+">"
			l := []rune(start + end)
			n := len([]rune(start))
			holds(t, l, "(S"+start+"|Z"+end+"|!)", []wrongful{{parse.IsStray, n, len(l)}, {parse.IsMissing, len(l), len(l)}})
			end = "</" + names[0] + ">"
			holds(t, []rune(start+end), "(S"+start+"|Z"+end+")", nil)
		}
	}
}

// P13.1: bytes without a mark that say by their beginning of which kind they are; an odd byte at the end.
func TestWideBytesWithoutMark(t *testing.T) {
	const s = "<?a?><b>é"
	for _, kind := range []int{sniff.Big, sniff.Little} {
		b := append(sniff.Encode(kind, []rune(s)...), 0xFF)
		x := parse.Parse(b)
		if got := told(x, x.Root); got != "P<?a?>|(S<b>|Té|B\x01|!)" {
			t.Errorf("of kind %d the tree is %q", kind, got)
		}
		broken, missing := span.Span{From: 18, To: 19}, span.Span{From: 19, To: 19}
		if !slices.Equal(x.Diags, []span.Diag{{At: broken, Code: parse.IsBroken}, {At: missing, Code: parse.IsMissing}}) {
			t.Errorf("of kind %d %v is wrong", kind, x.Diags)
		}
		if x.Text.Kind != kind || x.Text.Bom != 0 || !bytes.Equal(x.Print(), b) {
			t.Errorf("of kind %d the text is of kind %d, with a mark of %d", kind, x.Text.Kind, x.Text.Bom)
		}
	}
}

// P13.1: of a second mark the runes are text.
func TestTwoMarks(t *testing.T) {
	for _, f := range forms[1:] {
		b := []byte(f.mark + f.mark)
		x := parse.Parse(b)
		if got := told(x, x.Root); got != "^|T\uFEFF" || len(x.Diags) != 0 || !bytes.Equal(x.Print(), b) {
			t.Errorf("of %x the tree is %q, %v", b, got, x.Diags)
		}
		if kids := x.A.Kids(x.Root); len(kids) != 2 || x.A.Kind(kids[0]) != parse.Mark || string(x.A.Bytes(kids[0])) != f.mark {
			t.Errorf("of %x the kids are %v", b, kids)
		}
		if got := x.Runes(x.Root); !slices.Equal(got, []rune{0xFEFF, 0xFEFF}) {
			t.Errorf("of %x the runes are %x", b, got)
		}
	}
}

// P13.1: 63, 64 and 65 elements, and more; what is too deep is a kid of the innermost one, and its end tag closes another one, or none.
func TestDepth(t *testing.T) {
	for _, n := range []int{1, 2, 62, 63, 64, 65, 66, 100} {
		deep := max(0, n-api.MaxDepth)
		open := n - deep
		starts, ends := strings.Repeat("<a>", n), strings.Repeat("</a>", n)
		tree := strings.Repeat("(S<a>|", open) + strings.Repeat("S<a>|", deep) +
			strings.TrimSuffix(strings.Repeat("Z</a>)|", open), "|") + strings.Repeat("|Z</a>", deep)
		var wrong []wrongful
		for i := range deep {
			wrong = append(wrong, wrongful{parse.IsDeep, 3 * (open + i), 3 * (open + i + 1)})
		}
		for i := range deep {
			from := 3*n + 4*(open+i)
			wrong = append(wrong, wrongful{parse.IsStray, from, from + 4})
		}
		holds(t, rows.Of(starts+ends), tree, wrong)
		agree(t, starts+ends)

		wrong = wrong[:deep]
		for range open {
			wrong = append(wrong, wrongful{parse.IsMissing, 3 * n, 3 * n})
		}
		tree = strings.Repeat("(S<a>|", open) + strings.Repeat("S<a>|", deep) +
			strings.TrimSuffix(strings.Repeat("!)|", open), "|")
		holds(t, rows.Of(starts), tree, wrong)
	}
}

// P13.1: what stands behind and within elements that are as deep as may be.
func TestBehindDepth(t *testing.T) {
	ahead := strings.Repeat("<a>", 63)
	wrapped := func(s string) string { return strings.Repeat("(S<a>|", 63) + s }
	closed := strings.Repeat("|!)", 63)
	missing := func(at int) string { return strings.Repeat(fmt.Sprintf(" 4:%d-%d", at, at), 63) }
	for _, c := range []struct{ s, tree, wrong string }{
		{"<b><c></c></b>", "(S<b>|S<c>|Z</c>|Z</b>)", "5:192-195 3:195-199" + missing(203)},
		{"<b><c></b>", "(S<b>|S<c>|Z</b>)", "5:192-195" + missing(199)},
		{"<b><c/></b>", "(S<b>|E<c/>|Z</b>)", missing(200)},
		{"<b><c d></b>", "(S<b>|S<c d>|Z</b>)", "2:192-197 5:192-197" + missing(201)},
		{"<b><c d/></b>", "(S<b>|E<c d/>|Z</b>)", "2:192-198" + missing(202)},
		{"<b><c</b>", "(S<b>|S<c|Z</b>)", "1:192-194" + missing(198)},
		{"<b><b></b></b>", "(S<b>|S<b>|Z</b>)|Z</b>", "5:192-195 3:199-203" + missing(203)},
		{"<b></b><c></c>", "(S<b>|Z</b>)|(S<c>|Z</c>)", missing(203)},
		{"<b></b><c><d></c><e></e>", "(S<b>|Z</b>)|(S<c>|S<d>|Z</c>)|(S<e>|Z</e>)", "5:199-202" + missing(213)},
		{"<b>x<c>y</c>z</b>", "(S<b>|Tx|S<c>|Ty|Z</c>|Tz|Z</b>)", "5:193-196 3:197-201" + missing(206)},
		{"<b></c><d></b>", "(S<b>|Z</c>|S<d>|Z</b>)", "3:192-196 5:196-199" + missing(203)},
		{"<b></c><d e>", "(S<b>|Z</c>|S<d e>|!)", "3:192-196 2:196-201 5:196-201 4:201-201" + missing(201)},
	} {
		holds(t, rows.Of(ahead+c.s), wrapped(c.tree)+closed, wrongs(c.wrong))
	}
	// An end tag of the outermost one closes all.
	s := "<b>" + ahead + "<c></b><c></c>"
	tree := "(S<b>|" + wrapped("S<c>") + closed + "|Z</b>)|(S<c>|Z</c>)"
	holds(t, rows.Of(s), tree, wrongs("5:192-195"+missing(195)))
}

// P13.1: the constants are these numbers.
func TestConstants(t *testing.T) {
	for i, kind := range []int{parse.Doc, parse.Elem, parse.Missing, parse.Mark} {
		if kind != 20+i {
			t.Errorf("kind %d is %d", 20+i, kind)
		}
	}
	for i, code := range []int{parse.IsBroken, parse.IsTag, parse.IsStray, parse.IsMissing, parse.IsDeep} {
		if code != i+1 {
			t.Errorf("code %d is %d", i+1, code)
		}
	}
}

// P13.1: Of runes that have no bytes, of Bad, and with FEFF ahead, which is no mark.
func TestOfSome(t *testing.T) {
	const surrogate, beyond = 0xD800, 0x110000
	for _, c := range []struct {
		l     []rune
		tree  string // of what prints
		b     string
		diags []span.Diag
	}{
		{nil, "", "", nil},
		{[]rune{0xFEFF}, "T\uFEFF", "\uFEFF", nil},
		{[]rune{0xFEFF, '<', 'a', '/', '>'}, "T\uFEFF|E<a/>", "\uFEFF<a/>", nil},
		{[]rune{0xFFFE, 'a'}, "T\uFFFEa", "\uFFFEa", nil},
		{[]rune{0, '<', 0, '?'}, "T\x00|B<|T\x00?", "\x00<\x00?", []span.Diag{{At: span.Span{From: 1, To: 2}, Code: parse.IsBroken}}},
		{[]rune{api.Bad}, "B", "", []span.Diag{{At: span.Span{From: 0, To: 0}, Code: parse.IsBroken}}},
		{[]rune{'é', api.Bad, 'é'}, "Té|B|Té", "éé", []span.Diag{{At: span.Span{From: 2, To: 2}, Code: parse.IsBroken}}},
		{[]rune{'a', surrogate, beyond, -2, math.MinInt32, math.MaxInt32, 'b'}, "Tab", "ab", nil},
		{[]rune{surrogate}, "T", "", nil},
		{[]rune{'<', 'a', surrogate, '>', '<', '/', 'a', '>'}, "(S<a>|Z</a>)", "<a></a>", []span.Diag{{At: span.Span{From: 0, To: 3}, Code: parse.IsTag}}},
		{[]rune{'<', api.Bad, 'a', '>'}, "B<|B|Ta>", "<a>", []span.Diag{{At: span.Span{From: 0, To: 1}, Code: parse.IsBroken}, {At: span.Span{From: 1, To: 1}, Code: parse.IsBroken}}},
		{[]rune{'<', 'a', '>', beyond, '<', '/', beyond, '>'}, "(S<a>|T|Z</>|!)", "<a></>", []span.Diag{
			{At: span.Span{From: 3, To: 6}, Code: parse.IsTag}, {At: span.Span{From: 3, To: 6}, Code: parse.IsStray}, {At: span.Span{From: 6, To: 6}, Code: parse.IsMissing}}},
	} {
		x := parse.Of(c.l)
		if got := told(x, x.Root); got != c.tree || string(x.Print()) != c.b || !slices.Equal(x.Diags, c.diags) {
			t.Errorf("Of(%x) is %q, prints %q, %v is wrong", c.l, got, x.Print(), x.Diags)
		}
		if x.Text.Kind != sniff.Eight || x.Text.Bom != 0 || !slices.Equal(x.Text.R, c.l) || !slices.Equal(x.Text.Off, sniff.Offsets(sniff.Eight, c.l)) {
			t.Errorf("Of(%x) has the text %v", c.l, x.Text)
		}
		if got, want := x.Runes(x.Root), []rune(c.b); !slices.Equal(got, want) {
			t.Errorf("Of(%x) has the runes %x", c.l, got)
		}
		for _, n := range x.A.Kids(x.Root) {
			if x.A.Kind(n) == parse.Mark {
				t.Errorf("Of(%x) has a mark", c.l)
			}
		}
	}
}

// P13.1: Of the runes of bytes without a mark is told as those bytes are.
func TestOfIsParse(t *testing.T) {
	for _, s := range []string{"", "<a x='é'>&e;<b/></a>", "<a><b></a></c>", "x<!--😀--><?y?>&", "<é><é>\uFFFD</é>"} {
		x, y := parse.Of([]rune(s)), parse.Parse([]byte(s))
		if told(x, x.Root) != told(y, y.Root) || !slices.Equal(x.Diags, y.Diags) || !bytes.Equal(x.Print(), y.Print()) {
			t.Errorf("Of %q is %q, %v", s, told(x, x.Root), x.Diags)
		}
		if x.Text.Kind != y.Text.Kind || x.Text.Bom != y.Text.Bom || !slices.Equal(x.Text.R, y.Text.R) || !slices.Equal(x.Text.Off, y.Text.Off) {
			t.Errorf("Of %q has the text %v, not %v", s, x.Text, y.Text)
		}
	}
}

// nothing holds all that is told of a number that is no node, or of a node that has nothing, to be nothing.
func nothing(t *testing.T, x parse.Tree, n int) {
	t.Helper()
	if l, s, e := x.Runes(n), x.Name(n), x.Elements(n); len(l) != 0 || s != "" || len(e) != 0 {
		t.Errorf("of node %d: runes %x, name %q, elements %v", n, l, s, e)
	}
}

// noNodes are numbers below 0, and far beyond the last one.
var noNodes = []int{math.MinInt, math.MinInt32, -22, -1, math.MaxInt32, math.MaxInt}

// P13.1, P13.2: the zero tree.
func TestZeroTree(t *testing.T) {
	var x parse.Tree
	if len(x.Print()) != 0 || x.Cursor() != (red.Cursor{}) {
		t.Errorf("it prints %q", x.Print())
	}
	for _, n := range append([]int{0, 1, 20}, noNodes...) {
		nothing(t, x, n)
	}
}

// P13.2: numbers that are no nodes.
func TestNoNodes(t *testing.T) {
	for _, s := range []string{"", "<a>", "\xEF\xBB\xBF<a b='c'><d/></a>", "\xFF\xFE<\x00a\x00/\x00>\x00"} {
		x := parse.Parse([]byte(s))
		for _, n := range append([]int{x.A.Len(), x.A.Len() + 1}, noNodes...) {
			nothing(t, x, n)
		}
	}
}

// at is the node to which a path leads.
func at(t *testing.T, x parse.Tree, path ...int) int {
	t.Helper()
	n, ok := x.A.At(x.Root, path...)
	if !ok {
		t.Fatalf("%v leads nowhere in %q", path, told(x, x.Root))
	}
	return n
}

// P13.2: of some nodes, in bytes of each kind.
func TestNodesOfSome(t *testing.T) {
	const s = "é<a b='c' b:d=\"\x02\">x<e/><f:g><h></f:g >&e;<\x02\x03 i='' /></a><j k>&#65;"
	for _, f := range forms {
		l := rows.Of(s)
		b, _ := f.bytes(l)
		x := parse.Parse(b)
		shift := min(len(f.mark), 1) // what a mark puts ahead
		for _, c := range []struct {
			path        []int
			runes, name string
			elements    [][]int
		}{
			{nil, s, "", [][]int{{1}, {2}}},
			{[]int{0}, "é", "", nil},
			{[]int{1}, "<a b='c' b:d=\"\x02\">x<e/><f:g><h></f:g >&e;<\x02\x03 i='' /></a>", "a", [][]int{{1, 2}, {1, 3}, {1, 5}}},
			{[]int{1, 0}, "<a b='c' b:d=\"\x02\">", "a", nil},
			{[]int{1, 1}, "x", "", nil},
			{[]int{1, 2}, "<e/>", "e", nil},
			{[]int{1, 3}, "<f:g><h></f:g >", "f:g", [][]int{{1, 3, 1}}},
			{[]int{1, 3, 0}, "<f:g>", "f:g", nil},
			{[]int{1, 3, 1}, "<h>", "h", nil},
			{[]int{1, 3, 1, 0}, "<h>", "h", nil},
			{[]int{1, 3, 1, 1}, "", "", nil}, // a Missing
			{[]int{1, 3, 2}, "</f:g >", "f:g", nil},
			{[]int{1, 4}, "&e;", "", nil},
			{[]int{1, 5}, "<\x02\x03 i='' />", "é·", nil},
			{[]int{1, 6}, "</a>", "a", nil},
			{[]int{2}, "<j k>&#65;", "j", nil},
			{[]int{2, 0}, "<j k>", "j", nil},
			{[]int{2, 1}, "&#65;", "", nil},
			{[]int{2, 2}, "", "", nil},
		} {
			moved := func(path []int) []int {
				path = slices.Clone(path)
				if len(path) > 0 {
					path[0] += shift
				}
				return path
			}
			n := at(t, x, moved(c.path)...)
			runes := rows.Of(c.runes)
			if len(c.path) == 0 && shift > 0 {
				runes = append([]rune{0xFEFF}, runes...)
			}
			if got := x.Runes(n); !slices.Equal(got, runes) {
				t.Errorf("kind %d: runes of %v are %q", f.kind, c.path, string(got))
			}
			if got := x.Name(n); got != c.name {
				t.Errorf("kind %d: the name of %v is %q, want %q", f.kind, c.path, got, c.name)
			}
			var elements []int
			for _, path := range c.elements {
				elements = append(elements, at(t, x, moved(path)...))
			}
			if got := x.Elements(n); !slices.Equal(got, elements) {
				t.Errorf("kind %d: elements of %v are %v, want %v", f.kind, c.path, got, elements)
			}
		}
		if shift > 0 {
			mark := at(t, x, 0)
			if got := x.Runes(mark); !slices.Equal(got, []rune{0xFEFF}) || x.A.Kind(mark) != parse.Mark || x.Name(mark) != "" {
				t.Errorf("kind %d: the mark is %x, of kind %d", f.kind, got, x.A.Kind(mark))
			}
		}
	}
}

// P13.2: names of tags that are not whole, or not right.
func TestNamesOfTags(t *testing.T) {
	for _, c := range []struct{ s, name string }{
		{"<ab", "ab"},
		{"<ab c='>", "ab"},
		{"<ab<", "ab"},
		{"<a\xFFb>", "a"},
		{"<a'b'>", "a"},
		{"<:>", ":"},
		{"<a:b:c/>", "a:b:c"},
		{"</ab", "ab"},
		{"</a\xFF>", "a"},
		{"</", ""},
		{"</>", ""},
		{"</ a>", ""},
		{"</1>", ""},
		{"</\xFFa>", ""},
		{"<猫.1 b>", "猫.1"},
		{"</𐐀>", "𐐀"},
		{"<?a b?>", ""},
		{"<!--a-->", ""},
		{"<!DOCTYPE a>", ""},
		{"<![CDATA[a]]>", ""},
		{"&a;", ""},
		{"a", ""},
		{"<", ""},
	} {
		x := parse.Parse([]byte(c.s))
		if got := x.Name(at(t, x, 0)); got != c.name {
			t.Errorf("Name of %q is %q, want %q", c.s, got, c.name)
		}
		if got := x.Name(x.Root); got != "" {
			t.Errorf("the root of %q has the name %q", c.s, got)
		}
	}
}

// branch adds a branch.
func branch(t *testing.T, a *green.Arena, kind int, kids ...int) int {
	t.Helper()
	n, e := a.Branch(kind, kids...)
	if e != api.OK {
		t.Fatalf("a branch of %v is refused: %d", kids, e)
	}
	return n
}

// P1, P13.2: trees that are made by hand.
func TestTreesByHand(t *testing.T) {
	a := green.New()
	start, text, empty := a.Leaf(lex.Start, []byte("<a b>")), a.Leaf(lex.Text, []byte("<c>")), a.Leaf(lex.Empty, []byte("d"))
	end := a.Leaf(lex.End, []byte("</e"))
	for _, c := range []struct {
		node int
		name string
	}{
		{start, "a"},
		{text, ""},
		{empty, ""},
		{end, "e"},
		{a.Leaf(lex.Start, nil), ""},
		{a.Leaf(lex.Start, []byte("<f><g>")), "f"},
		{a.Leaf(parse.Elem, []byte("<a>")), ""},
		{branch(t, a, parse.Elem), ""}, // node 0 has a name, but is no kid
		{branch(t, a, parse.Elem, text, start), ""},
		{branch(t, a, parse.Elem, end, start), "e"},
		{branch(t, a, parse.Elem, branch(t, a, parse.Elem, start), text), "a"},
		{branch(t, a, parse.Elem, branch(t, a, parse.Doc, start), text), ""},
		{branch(t, a, parse.Elem, branch(t, a, parse.Elem), start), ""},
		{branch(t, a, parse.Doc, start), ""},
		{branch(t, a, lex.Start, start), ""}, // no leaf
		{branch(t, a, lex.End, text), ""},
		{branch(t, a, parse.Elem, branch(t, a, lex.Start, start)), ""},
	} {
		if got := (parse.Tree{A: a, Root: -1}).Name(c.node); got != c.name {
			t.Errorf("Name(%d) is %q, want %q", c.node, got, c.name)
		}
	}
	elem := branch(t, a, parse.Elem, start)
	full := branch(t, a, math.MaxInt, text, elem, start, empty, empty, branch(t, a, lex.Empty), a.Leaf(parse.Elem, nil), end, elem)
	x := parse.Tree{A: a, Root: full}
	kids := a.Kids(full)
	if got := x.Elements(full); !slices.Equal(got, []int{elem, empty, empty, kids[5], kids[6], elem}) {
		t.Errorf("of %v the elements are %v", kids, got)
	}
	if c := x.Cursor(); c.Node() != full || string(x.Print()) != string(a.Print(full)) {
		t.Errorf("the cursor is at %d", c.Node())
	}
	for _, n := range append([]int{a.Len()}, noNodes...) {
		x := parse.Tree{A: a, Root: n}
		if len(x.Print()) != 0 || x.Cursor() != (red.Cursor{}) {
			t.Errorf("a tree whose root is %d prints %q", n, x.Print())
		}
	}
	// Of a kind that there is none of bytes are no runes.
	for _, kind := range []int{-1, 3, math.MinInt, math.MaxInt} {
		x := parse.Tree{Text: sniff.Text{Kind: kind, R: []rune("<a>")}, A: a, Root: start}
		nothing(t, x, start)
	}
	x = parse.Tree{Text: sniff.Text{Kind: sniff.Big}, A: a, Root: a.Leaf(lex.Start, []byte("\x00<\x00h\xDC\x00\x00"))}
	if got := x.Runes(x.Root); !slices.Equal(got, []rune{'<', 'h', api.Bad, api.Bad}) || x.Name(x.Root) != "h" {
		t.Errorf("the runes are %x, the name %q", got, x.Name(x.Root))
	}
}

// P1, P13.2: elements that are the first within one another, as many as parts may be.
func TestNameOfDeepTreeByHand(t *testing.T) {
	a := green.New()
	n := a.Leaf(lex.Start, []byte("<a>"))
	for range 1 << 16 {
		n = branch(t, a, parse.Elem, n)
	}
	x := parse.Tree{A: a, Root: n}
	if got := x.Name(n); got != "a" || len(x.Elements(n)) != 1 || string(x.Print()) != "<a>" {
		t.Errorf("the name is %q", got)
	}
}

// P13.3, P13.4: all rows of at most three bytes of some, and a mark.
func TestShortBytes(t *testing.T) {
	rows.All(4, []string{"\x00", "\xFE", "\xFF", "\xEF\xBB\xBF", "\xC3", "\xA9", "\xD8", "\xDC", "<", "a", ">", "&"}, func(s string) {
		b := []byte(s)
		x := parse.Parse(b)
		if !bytes.Equal(x.Print(), b) {
			t.Fatalf("of %q the tree prints %q", s, x.Print())
		}
		for _, c := range x.Cursor().Walk(math.MaxInt) {
			if at := c.Span(); string(c.Text()) != s[at.From:at.To] || !bytes.Equal(c.Text(), x.A.Print(c.Node())) {
				t.Fatalf("of %q the text at %v is %q", s, at, c.Text())
			}
		}
		for _, d := range x.Diags {
			if d.At.From < 0 || d.At.To < d.At.From || d.At.To > len(b) {
				t.Fatalf("of %q %v is wrong", s, d)
			}
		}
	})
}

// P1, P13.3: bytes as many as a document may have, and more: each ends, and prints what it was made of.
func TestLongBytes(t *testing.T) {
	for _, part := range []string{
		"<a>", "</a>", "<a/>", "<a", "</a", "<", "&", "&a;", "&#1;", "x", "\xFF", "<!--", "<!---->", "<?", "<?a?>", "<![CDATA[", "<!DOCTYPE", "'", "<a b='c'>", "<a></b>", "<a></a>",
		"<a><b></a>", "\x00", "\xFE\xFF", " ",
	} {
		b := []byte(strings.Repeat(part, 2+api.MaxBytes/len(part)/4))
		long(t, b)
		long(t, append([]byte("<a>"), b...))
		long(t, append([]byte("\xEF\xBB\xBF"+strings.Repeat("<b>", 70)), b...))
		x := parse.Of([]rune(string(b)))
		x.Name(x.Root)
		x.Elements(x.Root)
	}
	long(t, []byte(strings.Repeat("<a></a>", 1+api.MaxBytes/7)))
}

// long holds what the tree of many bytes prints against them, and asks of the root all that is told.
func long(t *testing.T, b []byte) {
	t.Helper()
	x := parse.Parse(b)
	if !bytes.Equal(x.Print(), b) {
		t.Errorf("%.20q.. (%d bytes) is not what the tree prints", b, len(b))
	}
	x.Name(x.Root)
	x.Elements(x.Root)
	if got := x.Runes(x.Root); len(got) < len(x.Text.R) {
		t.Errorf("%.20q.. (%d bytes) has %d runes", b, len(b), len(got))
	}
}

// P13.1: names as long as a document may be, and many end tags that close none of those that are open.
func TestLongNames(t *testing.T) {
	const n = api.MaxBytes / 300
	s := strings.Repeat("<"+strings.Repeat("a", n)+">", 64) + strings.Repeat("</"+strings.Repeat("a", n-1)+"b>", 128)
	x := parse.Parse([]byte(s))
	if len(x.Diags) != 128+64 || string(x.Print()) != s {
		t.Errorf("%d are wrong", len(x.Diags))
	}
}

// The rules that hold everywhere, 4 and 5: bytes and runes that are handed in are neither changed nor kept.
func TestArgumentsAreNotKept(t *testing.T) {
	const s = "\xEF\xBB\xBF<a b='c'>é&e;</b><d/>"
	b := append([]byte(s), "behind"...)[:len(s)]
	was := slices.Clone(b[:cap(b)])
	x := parse.Parse(b)
	if !bytes.Equal(b[:cap(b)], was) {
		t.Errorf("%q is %q now", was, b[:cap(b)])
	}
	l := append([]rune("<a b='c'>é&e;</b><d/>"), []rune("behind")...)[:len(x.Text.R)]
	wasRunes := slices.Clone(l[:cap(l)])
	y := parse.Of(l)
	if !slices.Equal(l[:cap(l)], wasRunes) {
		t.Errorf("%q is %q now", string(wasRunes), string(l[:cap(l)]))
	}
	tree, runes := told(x, x.Root), slices.Clone(x.Text.R)
	clear(b)
	clear(l)
	for _, x := range []parse.Tree{x, y} {
		if !strings.HasSuffix(tree, told(x, x.Root)) || !slices.Equal(x.Text.R, runes) || !strings.HasSuffix(s, string(x.Print())) {
			t.Errorf("the tree is %q, with the text %q", told(x, x.Root), string(x.Text.R))
		}
	}
	if x.Name(at(t, x, 1)) != "a" || y.Name(at(t, y, 0)) != "a" {
		t.Error("names are others")
	}
}

// The rules that hold everywhere, 4: what is written into an answer, or appended to it, is seen by no later one.
func TestAnswersAreNew(t *testing.T) {
	const s = "<a b='c'>é&e;</b><d/></a>"
	x := parse.Parse([]byte(s))
	elem := at(t, x, 0)
	start := at(t, x, 0, 0)
	for range 2 {
		print, runes, elements := x.Print(), x.Runes(elem), x.Elements(elem)
		if string(print) != s || string(runes) != s || !slices.Equal(elements, []int{at(t, x, 0, 4)}) || x.Name(elem) != "a" || string(x.Runes(start)) != "<a b='c'>" {
			t.Errorf("print %q, runes %q, elements %v, name %q", print, string(runes), elements, x.Name(elem))
		}
		clear(print[:cap(print)])
		clear(runes[:cap(runes)])
		clear(elements[:cap(elements)])
		_, _, _ = append(print, 'x'), append(runes, 'x'), append(elements, 7)
	}
	// What the tree hands out is the caller's: no other tree has it, and no answer hangs on it.
	y := parse.Parse([]byte(s))
	clear(x.Text.R[:cap(x.Text.R)])
	clear(x.Text.Off[:cap(x.Text.Off)])
	clear(x.Diags[:cap(x.Diags)])
	if x.Name(elem) != "a" || string(x.Runes(elem)) != s || string(x.Print()) != s || x.Cursor().Span().To != len(s) {
		t.Errorf("the name is %q, the runes %q", x.Name(elem), string(x.Runes(elem)))
	}
	z := parse.Parse([]byte(s))
	for _, x := range []parse.Tree{y, z} {
		if string(x.Text.R) != s || len(x.Diags) != 1 || x.Diags[0] != (span.Diag{At: span.Span{From: 14, To: 18}, Code: parse.IsStray}) || x.Text.Off[10] != 11 {
			t.Errorf("the text is %v, %v is wrong", x.Text, x.Diags)
		}
	}
}

// The rules that hold everywhere, 6: nodes that come into a tree's arena later change nothing that is told of it.
func TestNodesThatComeLater(t *testing.T) {
	const s = "<a><b/>x</a>"
	x := parse.Parse([]byte(s))
	was := told(x, x.Root)
	n, e := x.A.Replace(x.Root, x.A.Leaf(lex.Text, scan.Bytes('y')), 0, 1)
	if e != api.OK || told(x, x.Root) != was || string(x.Print()) != s || len(x.Elements(at(t, x, 0))) != 1 {
		t.Errorf("the tree is %q", told(x, x.Root))
	}
	other := parse.Tree{Text: x.Text, A: x.A, Root: n}
	if got := told(other, n); got != "(S<a>|Ty|Tx|Z</a>)" || string(other.Print()) != "<a>yx</a>" || len(other.Elements(at(t, other, 0))) != 0 {
		t.Errorf("the new tree is %q", got)
	}
}

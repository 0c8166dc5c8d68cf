package tag_test

import (
	"math"
	"regexp"
	"slices"
	"strings"
	"testing"

	"rubric/api"
	"rubric/class"
	"rubric/rows"
	"rubric/tag"
)

// What the chapter says, as patterns of texts whose bytes stand for runes.
const (
	namePattern  = `[A-Za-z_:\x02][A-Za-z_:\x02\x03.0-9-]*`
	spacePattern = `[\x09\x0A\x0D\x20]+`
	valuePattern = `(?:"[^"]*"|'[^']*')`
	someSpace    = `(?:` + spacePattern + `)?`
	attrPattern  = spacePattern + namePattern + someSpace + `=` + someSpace + valuePattern
)

// patterns are those of the parts; of more than one that fits the first is taken.
var patterns = []struct {
	kind int
	is   *regexp.Regexp
}{
	{tag.Space, regexp.MustCompile(`\A` + spacePattern)},
	{tag.Name, regexp.MustCompile(`\A` + namePattern)},
	{tag.Eq, regexp.MustCompile(`\A=`)},
	{tag.Value, regexp.MustCompile(`\A` + valuePattern)},
	{tag.Close, regexp.MustCompile(`\A/?>\z`)},
	{tag.Junk, regexp.MustCompile(`(?s)\A.`)},
}

var (
	openIs  = regexp.MustCompile(`\A</?`)
	startIs = regexp.MustCompile(`\A<` + namePattern + `(?:` + attrPattern + `)*` + someSpace + `/?>\z`)
	endIs   = regexp.MustCompile(`\A</` + namePattern + someSpace + `>\z`)
	headIs  = regexp.MustCompile(`\A</?(` + namePattern + `)((?:` + attrPattern + `)*)`)
	attrIs  = regexp.MustCompile(spacePattern + `(` + namePattern + `)` + someSpace + `=` + someSpace + `(` + valuePattern + `)`)
)

// parts are those of all of s, by the patterns.
func parts(s string) []tag.Part {
	var l []tag.Part
	at := 0
	if m := openIs.FindString(s); m != "" {
		at = len(m)
		l = append(l, tag.Part{Kind: tag.Open, From: 0, To: at})
	}
	for at < len(s) {
		for _, p := range patterns {
			if m := p.is.FindString(s[at:]); m != "" {
				l = append(l, tag.Part{Kind: p.kind, From: at, To: at + len(m)})
				at += len(m)
				break
			}
		}
	}
	return l
}

// read is the tag of all of s, by the patterns.
func read(s string) tag.Tag {
	var t tag.Tag
	m := headIs.FindStringSubmatchIndex(s)
	if m == nil {
		return t
	}
	t.Name = tag.Part{Kind: tag.Name, From: m[2], To: m[3]}
	for _, a := range attrIs.FindAllStringSubmatchIndex(s[:m[5]], -1) {
		t.Attrs = append(t.Attrs, tag.Attr{
			Name:  tag.Part{Kind: tag.Name, From: a[2], To: a[3]},
			Value: tag.Part{Kind: tag.Value, From: a[4], To: a[5]},
			All:   tag.Part{Kind: tag.Junk, From: a[0], To: a[1]},
		})
	}
	t.Right = startIs.MatchString(s) || endIs.MatchString(s)
	t.Empty = t.Right && strings.HasSuffix(s, "/>")
	return t
}

// moved is a part n places further on.
func moved(p tag.Part, n int) tag.Part {
	return tag.Part{Kind: p.Kind, From: p.From + n, To: p.To + n}
}

// alike tells whether two tags are, where the second one is n places further on.
func alike(a, b tag.Tag, n int) bool {
	if a.Name != (tag.Part{}) {
		a.Name = moved(a.Name, n)
	}
	return a.Name == b.Name && a.Right == b.Right && a.Empty == b.Empty &&
		slices.EqualFunc(a.Attrs, b.Attrs, func(x, y tag.Attr) bool {
			return moved(x.Name, n) == y.Name && moved(x.Value, n) == y.Value && moved(x.All, n) == y.All
		})
}

// agree holds the parts and the tag of s against the patterns.
func agree(t *testing.T, s string) {
	t.Helper()
	l := rows.Of(s)
	if got, want := tag.Parts(l, 0, len(l)), parts(s); !slices.Equal(got, want) {
		t.Fatalf("Parts(%q) = %v, want %v", s, got, want)
	}
	if got, want := tag.Read(l, 0, len(l)), read(s); !alike(want, got, 0) {
		t.Fatalf("Read(%q) = %v, want %v", s, got, want)
	}
}

// P8.1, P8.2: all short rows of signs.
func TestTagsOfSigns(t *testing.T) {
	signs := strings.Split("< > / = \" ' a : 1 - & \x01 \x02 \x03 \x04", " ")
	signs = append(signs, " ", "\n", "</", "/>")
	rows.All(3, signs, func(s string) {
		agree(t, s)
		agree(t, "<"+s+">")
		agree(t, "<a"+s+">")
		agree(t, "</a"+s)
	})
}

// P8.1, P8.2: equals, blanks, names, values and junk in every order.
func TestTagsOfParts(t *testing.T) {
	some := []string{"=", " ", "a", "'v'", "-", "/"}
	rows.All(5, some, func(s string) { agree(t, "<a"+s+">") })
	rows.All(4, some, func(s string) {
		agree(t, "</a"+s+">")
		agree(t, "<a b='c'"+s+"/>")
		agree(t, "<a"+s+" b='c'")
		agree(t, s+">")
	})
}

// P8.1: within a longer row, from all places up to all others: nothing looks further than the last one.
func TestTagsWithinRows(t *testing.T) {
	for _, s := range []string{
		"x</abc def = 'g h'  i=\"'/>\"/></a>",
		"<a b='c' d>e='f'><g/ >",
		"</a \r\n></<//>>",
		"''\"'\"<'=a=b:c\x01\x02\x03 /",
	} {
		l := rows.Of(s)
		for from := range len(s) + 1 {
			for to := from; to <= len(s); to++ {
				var want []tag.Part
				for _, p := range parts(s[from:to]) {
					want = append(want, moved(p, from))
				}
				if got := tag.Parts(l, from, to); !slices.Equal(got, want) {
					t.Fatalf("Parts(%q, %d, %d) = %v, want %v", s, from, to, got, want)
				}
				if got, want := tag.Read(l, from, to), read(s[from:to]); !alike(want, got, from) {
					t.Fatalf("Read(%q, %d, %d) = %v, want %v", s, from, to, got, want)
				}
			}
		}
	}
}

// P8.1: the kinds are these numbers.
func TestKinds(t *testing.T) {
	kinds := []int{tag.Open, tag.Name, tag.Space, tag.Eq, tag.Value, tag.Close, tag.Junk}
	for i, kind := range kinds {
		if kind != i+1 {
			t.Errorf("kind %d is %d", i+1, kind)
		}
	}
}

// told tells parts by their kinds' first letters and their runes.
func told(s string, l []tag.Part) string {
	var told []string
	for _, p := range l {
		told = append(told, "?ONSEVCJ"[p.Kind:p.Kind+1]+s[p.From:p.To])
	}
	return strings.Join(told, "|")
}

// P8.1
func TestPartsOfSome(t *testing.T) {
	for _, c := range []struct{ s, want string }{
		{"", ""},
		{"<a b='c'/>", "O<|Na|S |Nb|E=|V'c'|C/>"},
		{"</a>", "O</|Na|C>"},
		{"<", "O<"},
		{"</", "O</"},
		{"</>", "O</|C>"},
		{"<>", "O<|C>"},
		{"</ >", "O</|S |C>"},
		{"<<", "O<|J<"},
		{"<</", "O<|J<|J/"},
		{"<a</>", "O<|Na|J<|C/>"},
		{"a<b", "Na|J<|Nb"},
		{" <", "S |J<"},
		{">", "C>"},
		{"/>", "C/>"},
		{"/", "J/"},
		{">>", "J>|C>"},
		{"/>>", "J/|J>|C>"},
		{"/>/>", "J/|J>|C/>"},
		{"//>", "J/|C/>"},
		{"/ >", "J/|S |C>"},
		{"<a> ", "O<|Na|J>|S "},
		{"<a/> ", "O<|Na|J/|J>|S "},
		{"<a/>>", "O<|Na|J/|J>|C>"},
		{" \t\r\n", "S \t\r\n"},
		{" \x01 ", "S |J\x01|S "},
		{"a:b.c-1 1a", "Na:b.c-1|S |J1|Na"},
		{"-a--", "J-|Na--"},
		{"\x02\x03\x04\x03", "N\x02\x03|J\x04|J\x03"},
		{"a=b", "Na|E=|Nb"},
		{"==", "E=|E="},
		{"''", "V''"},
		{"'\"'\"", "V'\"'|J\""},
		{"\"a'b\"'", "V\"a'b\"|J'"},
		{"'a", "J'|Na"},
		{"\"a'", "J\"|Na|J'"},
		{"'<a b=\"/>\"\n'", "V'<a b=\"/>\"\n'"},
		{"'a''b'", "V'a'|V'b'"},
		{"&a;", "J&|Na|J;"},
		{"\x01\x01", "J\x01|J\x01"},
	} {
		if got := told(c.s, tag.Parts(rows.Of(c.s), 0, len(c.s))); got != c.want {
			t.Errorf("Parts(%q) is %q, want %q", c.s, got, c.want)
		}
	}
}

// P8.1: up to a place ahead of a quote's other one, ahead of a >, within a name, and within a sign.
func TestPartsUpToPlaces(t *testing.T) {
	const s = "</ab c='d'/>"
	for _, c := range []struct {
		from, to int
		want     string
	}{
		{0, 0, ""},
		{0, 1, "O<"},
		{0, 2, "O</"},
		{0, 3, "O</|Na"},
		{1, 4, "J/|Nab"},
		{2, 9, "Nab|S |Nc|E=|J'|Nd"},
		{2, 10, "Nab|S |Nc|E=|V'd'"},
		{9, 11, "J'|J/"},
		{9, 12, "J'|C/>"},
		{10, 11, "J/"},
		{11, 12, "C>"},
		{12, 12, ""},
	} {
		if got := told(s, tag.Parts(rows.Of(s), c.from, c.to)); got != c.want {
			t.Errorf("Parts(%q, %d, %d) is %q, want %q", s, c.from, c.to, got, c.want)
		}
	}
}

// P8.1, P8.2: of places that may not be there is nothing.
func TestPlacesThatMayNotBe(t *testing.T) {
	for _, s := range []string{"", "<a b='c'>"} {
		places := []int{math.MinInt, -1, 0, 1, len(s), len(s) + 1, math.MaxInt32, math.MaxInt}
		for _, from := range places {
			for _, to := range places {
				if from >= 0 && to >= from && to <= len(s) {
					continue
				}
				// Behind the end, within the row's capacity, is none of it.
				l := append(rows.Of(s), rows.Of("<a>")...)[:len(s)]
				if got := tag.Parts(l, from, to); len(got) != 0 {
					t.Errorf("Parts(%q, %d, %d) = %v", s, from, to, got)
				}
				if got := tag.Read(l, from, to); !alike(got, tag.Tag{}, 0) {
					t.Errorf("Read(%q, %d, %d) = %v", s, from, to, got)
				}
			}
		}
	}
	if len(tag.Parts(nil, 0, 0)) != 0 || !alike(tag.Read(nil, 0, 0), tag.Tag{}, 0) {
		t.Error("no runes have parts")
	}
}

// what tells a tag: its name, each attribute with all of it in brackets, and whether it is right, and empty.
func what(s string, t tag.Tag) string {
	told := s[t.Name.From:t.Name.To]
	for _, a := range t.Attrs {
		told += "[" + s[a.All.From:a.All.To] + "]" + s[a.Name.From:a.Name.To] + s[a.Value.From:a.Value.To]
	}
	if t.Right {
		told += " right"
	}
	if t.Empty {
		told += " empty"
	}
	return told
}

// P8.2
func TestReadOfSome(t *testing.T) {
	for _, c := range []struct{ s, want string }{
		{"<a b='c'/>", "a[ b='c']b'c' right empty"},
		{"<a>", "a right"},
		{"<a/>", "a right empty"},
		{"<a \r\n>", "a right"},
		{"<a\t/>", "a right empty"},
		{"</a>", "a right"},
		{"</a >", "a right"},
		{"</a/>", "a"},
		{"</a />", "a"},
		{"</a b='c'>", "a[ b='c']b'c'"},
		{"</a b='c'/>", "a[ b='c']b'c'"},
		{"<a \n b \r = \t 'c' \n d=\"e\" >", "a[ \n b \r = \t 'c']b'c'[ \n d=\"e\"]d\"e\" right"},
		{"<a b= 'c'>", "a[ b= 'c']b'c' right"},
		{"<a b ='c'>", "a[ b ='c']b'c' right"},
		{"<a b='' b=\"\"/>", "a[ b='']b''[ b=\"\"]b\"\" right empty"},
		{"<a:b xmlns:a='u'>", "a:b[ xmlns:a='u']xmlns:a'u' right"},
		{"<::>", ":: right"},
		{"<a b='/>'>", "a[ b='/>']b'/>' right"},
		{"<a b='c'd='e'>", "a[ b='c']b'c'"},
		{"<ab='c'>", "ab"},
		{"<a'b'>", "a"},
		{"<a='b'>", "a"},
		{"<a b>", "a"},
		{"<a b c='d'>", "a"},
		{"<a b=>", "a"},
		{"<a b=c>", "a"},
		{"<a b 'c'>", "a"},
		{"<a b=='c'>", "a"},
		{"<a ='c'>", "a"},
		{"<a 'c'>", "a"},
		{"<a =>", "a"},
		{"<a b='c' d e='f'>", "a[ b='c']b'c'"},
		{"<a b='c' 1 e='f'>", "a[ b='c']b'c'"},
		{"<a b='c' d='>", "a[ b='c']b'c'"},
		{"<a b='c' /e='f'>", "a[ b='c']b'c'"},
		{"<a b='c'/ >", "a[ b='c']b'c'"},
		{"<a/ b='c'>", "a"},
		{"<a//>", "a"},
		{"<a>>", "a"},
		{"<a b='c'", "a[ b='c']b'c'"},
		{"<a b='c' ", "a[ b='c']b'c'"},
		{"<a", "a"},
		{"<a ", "a"},
		{"<a> ", "a"},
		{"< a b='c'>", ""},
		{"</ a>", ""},
		{"<1a>", ""},
		{"<<a>", ""},
		{"<>", ""},
		{"</>", ""},
		{"a b='c'>", ""},
		{" <a>", ""},
		{"a>", ""},
		{">", ""},
		{"", ""},
		{"<\x02\x03 \x02='\x01&<'>", "\x02\x03[ \x02='\x01&<']\x02'\x01&<' right"},
		{"<a\x01>", "a"},
	} {
		got := tag.Read(rows.Of(c.s), 0, len(c.s))
		if told := what(c.s, got); told != c.want {
			t.Errorf("Read(%q) is %q, want %q", c.s, told, c.want)
		}
		if got.Name != (tag.Part{}) && got.Name.Kind != tag.Name || c.want == "" && got.Name != (tag.Part{}) {
			t.Errorf("Read(%q) has the name %v", c.s, got.Name)
		}
		for _, a := range got.Attrs {
			if a.Name.Kind != tag.Name || a.Value.Kind != tag.Value || a.All.Kind != tag.Junk {
				t.Errorf("Read(%q) has the attribute %v", c.s, a)
			}
		}
	}
}

// P8.1: each rune is what its class says.
func TestPartsOfEachRune(t *testing.T) {
	for r := rune(-300); r <= 0x110001; r++ {
		want := tag.Junk
		switch {
		case r == '<':
			want = tag.Open
		case r == '>':
			want = tag.Close
		case r == '=':
			want = tag.Eq
		case class.Space(r):
			want = tag.Space
		case class.NameStart(r):
			want = tag.Name
		}
		if got := tag.Parts([]rune{r}, 0, 1); !slices.Equal(got, []tag.Part{{Kind: want, From: 0, To: 1}}) {
			t.Errorf("%x is %v", r, got)
		}
		two := len(tag.Parts([]rune{'a', r}, 0, 2)) == 1
		if two != class.NameChar(r) {
			t.Errorf("a and %x are one part: %v", r, two)
		}
	}
	for _, r := range []rune{math.MinInt32, math.MaxInt32} {
		if got := tag.Parts([]rune{'<', r}, 0, 2); told("<a", got) != "O<|Ja" {
			t.Errorf("%x is %v", r, got)
		}
	}
}

// P8.3: the parts lie one behind the other, none is empty, and all runes are in them.
func TestPartsHaveAllRunes(t *testing.T) {
	some := []string{"<", "/", ">", "a", " ", "=", "'", "\"", "-", "\x01"}
	rows.All(4, some, func(s string) {
		const ahead = 2
		l := rows.Of("<b" + s + "'>")
		at := ahead
		for _, p := range tag.Parts(l, ahead, ahead+len(s)) {
			if p.From != at || p.To <= p.From {
				t.Fatalf("Parts(%q): one is from %d up to %d, behind %d", s, p.From, p.To, at)
			}
			at = p.To
		}
		if at != ahead+len(s) {
			t.Fatalf("Parts(%q) end at %d", s, at)
		}
	})
}

// P1: tags as long as a document may be end, too.
func TestLongTags(t *testing.T) {
	for _, part := range []string{"<", "/", ">", "=", " ", "a", " a", "'", "\"'", "-", "\x01", "a='b'", " a='b'", " a = 'b' c"} {
		s := "<a" + strings.Repeat(part, api.MaxBytes/len(part))
		l := tag.Parts(rows.Of(s), 0, len(s))
		if len(l) == 0 || l[len(l)-1].To != len(s) {
			t.Errorf("parts of many %q do not go to the end", part)
		}
		tag.Read(rows.Of(s), 0, len(s))
	}
	const many = 100000
	s := "<a" + strings.Repeat(" b='c'", many) + "/>"
	if got := tag.Read(rows.Of(s), 0, len(s)); len(got.Attrs) != many || !got.Right || !got.Empty {
		t.Errorf("a tag of many attributes has %d of them, Right %v, Empty %v", len(got.Attrs), got.Right, got.Empty)
	}
}

// The rules that hold everywhere, 4: a row that is handed in is not changed, and what is written into an answer is seen by no later one.
func TestTagsAreNew(t *testing.T) {
	const s = "<a b='c' d='e' f/>"
	l := rows.Of(s)
	was := slices.Clone(l)
	parts, read := tag.Parts(l, 0, len(l)), tag.Read(l, 0, len(l))
	wasParts, wasAttrs := slices.Clone(parts), slices.Clone(read.Attrs)
	clear(parts)
	if !slices.Equal(read.Attrs, wasAttrs) {
		t.Error("a tag's attributes share memory with parts")
	}
	clear(read.Attrs)
	if got := tag.Parts(l, 0, len(l)); !slices.Equal(got, wasParts) {
		t.Errorf("parts are %v after an answer was written into", got)
	}
	if got := tag.Read(l, 0, len(l)); !slices.Equal(got.Attrs, wasAttrs) {
		t.Errorf("attributes are %v after an answer was written into", got.Attrs)
	}
	if !slices.Equal(l, was) {
		t.Errorf("%x is %x now", was, l)
	}
}

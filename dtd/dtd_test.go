package dtd_test

import (
	"fmt"
	"math"
	"math/rand"
	"reflect"
	"regexp"
	"slices"
	"sort"
	"strings"
	"testing"

	"rubric/api"
	"rubric/decl"
	"rubric/dtd"
	"rubric/rows"
)

// What the chapter says, as patterns of texts whose bytes stand for runes.
const (
	sp    = `[ \t\r\n]+`
	name  = `[A-Za-z_:\x02][A-Za-z_:\x02\x03.0-9-]*`
	plain = `[A-Za-z_\x02][A-Za-z_\x02\x03.0-9-]*`
)

var (
	notChar   = regexp.MustCompile(`[\x00\x01\x05-\x08\x0B\x0C\x0E-\x1F]`)
	commentIs = regexp.MustCompile(`\A<!--(?:[^-]|-[^-])*-->\z`)
	piIs      = regexp.MustCompile(`\A<\?(` + plain + `)(?:` + sp + `((?s:.*)))?\?>\z`)
	lineEnds  = strings.NewReplacer("\r\n", "\n", "\r", "\n")
)

// Items of a subset: blanks, comments, instructions, declarations, names of Params.
var itemIs = regexp.MustCompile(`\A(?:(` + sp + `)|(<!--(?s:.*?)-->)|(<\?(?s:.*?)\?>)|(<!(?:[^>'"]|'[^']*'|"[^"]*")*>)|%(` + name + `);)`)

// comment is whether s is a comment, by the pattern.
func comment(s string) bool { return commentIs.MatchString(s) && !notChar.MatchString(s) }

// pi is the target and the data of an instruction, and whether s is one, by the pattern.
func pi(s string) (string, string, bool) {
	m := piIs.FindStringSubmatch(s)
	if m == nil || notChar.MatchString(s) || strings.Contains(m[2], "?>") || strings.ToLower(m[1]) == "xml" {
		return "", "", false
	}
	return m[1], lineEnds.Replace(m[2]), true
}

// agreeMarkup holds what is told of s as a comment and as an instruction against the patterns.
func agreeMarkup(t *testing.T, s string) {
	t.Helper()
	l := rows.Of(s)
	if got, want := dtd.Comment(l, 0, len(l)), comment(s); got != want {
		t.Fatalf("Comment(%q) = %v, want %v", s, got, want)
	}
	target, data, is := pi(s)
	if gotTarget, gotData, ok := dtd.PI(l, 0, len(l)); ok != is || gotTarget != string(rows.Of(target)) || !slices.Equal(gotData, rows.Of(data)) {
		t.Fatalf("PI(%q) = %q, %q, %v, want %q, %q, %v", s, gotTarget, string(gotData), ok, target, data, is)
	}
}

// declared is what a subset declares, gone through plainly; what is wrong ends it by a panic.
type declared struct {
	decls   map[int]map[string]decl.Decl
	atts    map[string][]decl.Att
	skipped bool
	spent   int
	budget  int
	open    []string
	at      int
}

// plainly goes through a text as the chapter tells.
func plainly(s string, budget int) (d *declared, w dtd.Wrong) {
	d = &declared{decls: map[int]map[string]decl.Decl{}, atts: map[string][]decl.Att{}, budget: max(budget, 0)}
	for kind := decl.Entity; kind <= decl.Notation; kind++ {
		d.decls[kind] = map[string]decl.Decl{}
	}
	defer func() {
		if code := recover(); code != nil {
			d, w = nil, dtd.Wrong{Code: code.(int), At: d.at}
		}
	}()
	d.through(s)
	return d, w
}

// through goes through a text, of which each byte is a rune of its own.
func (d *declared) through(s string) {
	for left := s; left != ""; {
		if len(d.open) == 0 {
			d.at = len(s) - len(left)
		}
		m := itemIs.FindStringSubmatch(left)
		if m == nil || strings.HasPrefix(left, "<!--") && m[2] == "" {
			panic(dtd.IsJunk)
		}
		left = left[len(m[0]):]
		_, _, isPI := pi(m[3])
		switch {
		case m[2] != "" && !comment(m[2]):
			panic(dtd.IsComment)
		case m[3] != "" && !isPI:
			panic(dtd.IsPI)
		case m[4] != "":
			d.keep(m[4])
		case m[5] != "":
			d.param(m[5])
		}
	}
}

// keep keeps what a text declares, but for what there is.
func (d *declared) keep(s string) {
	found, ok := decl.Read([]rune(s), 0, len(s))
	if !ok {
		panic(dtd.IsDecl)
	}
	if found.Kind != decl.AttList {
		if _, there := d.decls[found.Kind][found.Name]; !there {
			d.decls[found.Kind][found.Name] = found
		}
		return
	}
	for _, a := range found.Atts {
		if !slices.ContainsFunc(d.atts[found.Name], func(b decl.Att) bool { return a.Name == b.Name }) {
			d.atts[found.Name] = append(d.atts[found.Name], a)
		}
	}
}

// param goes through what a Param stands for.
func (d *declared) param(name string) {
	p, ok := d.decls[decl.Param][name]
	switch {
	case !ok:
		panic(dtd.Undeclared)
	case p.Outside:
		d.skipped = true
		return
	case slices.Contains(d.open, name) || len(d.open) == 64:
		panic(dtd.Recursion)
	case d.spent+len(p.Value) > d.budget:
		panic(dtd.Over)
	}
	d.spent += len(p.Value)
	d.open = append(d.open, name)
	d.through(string(p.Value))
	d.open = d.open[:len(d.open)-1]
}

// names are those that the tests declare, and one that none does.
var names = []string{"a", "b", "e", "n", "p", "q", "r", "z", ""}

// same asks that what is declared is what was found plainly.
func same(d *dtd.DTD, want *declared) error {
	if (d == nil) != (want == nil) {
		return fmt.Errorf("one of them is nil: %v, %v", d, want)
	}
	if d == nil {
		return nil
	}
	for kind, of := range map[int]func(string) (decl.Decl, bool){decl.Entity: d.Entity, decl.Param: d.Param, decl.Element: d.Element, decl.Notation: d.Notation} {
		for _, name := range names {
			found, is := want.decls[kind][name]
			if got, ok := of(name); ok != is || !alike(got, found) {
				return fmt.Errorf("of kind %d by the name %q: %+v, %v, want %+v, %v", kind, name, got, ok, found, is)
			}
		}
	}
	for _, name := range names {
		if got := d.Atts(name); !alike(decl.Decl{Atts: got}, decl.Decl{Atts: want.atts[name]}) {
			return fmt.Errorf("attributes of %q: %+v, want %+v", name, got, want.atts[name])
		}
	}
	var all []string
	for name := range want.decls[decl.Entity] {
		all = append(all, name)
	}
	sort.Strings(all)
	if got := d.Names(); !slices.Equal(got, all) {
		return fmt.Errorf("names %q, want %q", got, all)
	}
	if d.Skipped() != want.skipped || d.Spent() != want.spent {
		return fmt.Errorf("skipped %v, spent %d, want %v, %d", d.Skipped(), d.Spent(), want.skipped, want.spent)
	}
	return nil
}

// alike tells whether two declarations say the same; lists of nothing are the same.
func alike(a, b decl.Decl) bool { return fmt.Sprintf("%+v", a) == fmt.Sprintf("%+v", b) }

// agree holds what Build answers of s against what is found plainly.
func agree(t *testing.T, s string, budget int) {
	t.Helper()
	want, wrong := plainly(s, budget)
	d, w := dtd.Build([]rune(s), 0, len(s), budget)
	if w != wrong {
		t.Fatalf("Build(%q, %d) tells %v, want %v", s, budget, w, wrong)
	}
	if err := same(d, want); err != nil {
		t.Fatalf("Build(%q, %d): %v", s, budget, err)
	}
}

// items are some that are right, and some that are not.
var items = []string{
	" \n", "%p;", "%q;", "%r;", "%P;", "<!ENTITY % p '&#37;q;&#37;q;'>", "<!ENTITY % q '<!ENTITY e \"1\"><!ATTLIST a b ID #IMPLIED>'>", "<!ENTITY % q '&#37;p;'>", "<!ENTITY % r SYSTEM 's'>",
	"<!ENTITY % p '&#37;r;<!ENTITY &#37; q \"&#x26;#37;r;\">'>", "<!ENTITY e '22'>", "<!ENTITY b PUBLIC 'p' 's' NDATA n>", "<!ATTLIST a b CDATA '1' n (x|y) 'x' b ID #IMPLIED>", "<!ELEMENT a ANY>", "<!ELEMENT a EMPTY>",
	"<!NOTATION e PUBLIC 'n'>", "<!--c-->", "<!--c--c-->", "<?p d?>", "<?xml d?>", "x", "]", "<!X>", "<!ENTITY % p ''>",
}

// P16.1, P16.2: all short rows of items, by what is found plainly, at budgets that do and do not do.
func TestBuildPlainly(t *testing.T) {
	rows.All(3, items, func(s string) {
		for _, budget := range []int{-1, 0, 5, 40, 60, 1000} {
			agree(t, s, budget)
		}
	})
	few := []string{"%p;", "%q;", "%r;", items[5], items[6], items[7], items[8], items[9], "<!ENTITY e '22'>"}
	rows.All(5, few, func(s string) { agree(t, s, len(s)) })
}

// P16.1: an item's signs, in all short rows, by what is found plainly.
func TestJunkPlainly(t *testing.T) {
	rows.All(5, []string{"<!", "<?", "--", "-", ">", "?>", "%", "p", ";", " ", "'", "<!ENTITY p ''>"}, func(s string) { agree(t, s, 100) })
}

// P16.2: all short comments and instructions, by the patterns.
func TestMarkupByPatterns(t *testing.T) {
	rows.All(7, []string{"<!--", "-", "-->", "a", "\x01", ">"}, func(s string) { agreeMarkup(t, s) })
	rows.All(6, []string{"<?", "?>", "?", " ", "a", "xml", "\r", ":"}, func(s string) { agreeMarkup(t, s) })
	for _, middle := range []string{"", "a", "xml", "xmL", "Xml", "XML", "xmlx", "\x02\x03", "\x03"} {
		rows.All(4, []string{"\n", "\r", "\t", "d", "?", ">", "\x01", "\x05", "\x02", "<?"}, func(s string) { agreeMarkup(t, "<?"+middle+s+"?>") })
		rows.All(4, []string{"\n", "-", "d", "?", "\x01", "\x05", "\x02"}, func(s string) { agreeMarkup(t, "<!--"+s+middle+"-->") })
	}
}

// build is what all of a text declares.
func build(s string, budget int) (*dtd.DTD, dtd.Wrong) {
	l := []rune(s)
	return dtd.Build(l, 0, len(l), budget)
}

// fine is what all of a text declares; it must not be wrong.
func fine(t *testing.T, s string, budget int) *dtd.DTD {
	t.Helper()
	d, w := build(s, budget)
	if d == nil || w != (dtd.Wrong{}) {
		t.Fatalf("Build(%.200q, %d) tells %v, %v", s, budget, d, w)
	}
	return d
}

// tells asks what is wrong in a text.
func tells(t *testing.T, s string, budget, code, at int) {
	t.Helper()
	if d, w := build(s, budget); d != nil || w != (dtd.Wrong{Code: code, At: at}) {
		t.Errorf("Build(%.200q, %d) tells %v, %v, want nil, %v", s, budget, d, w, dtd.Wrong{Code: code, At: at})
	}
}

// P16.1, P16.2: the chapter's example.
func TestExample(t *testing.T) {
	d := fine(t, `<!ENTITY % p "<!ENTITY e 'x'>">%p;`, 100)
	e, ok := d.Entity("e")
	if !ok || string(e.Value) != "x" || d.Spent() != 15 || d.Skipped() {
		t.Errorf("e is %+v, %v; spent %d, skipped %v", e, ok, d.Spent(), d.Skipped())
	}
}

// P16.1: a subset of no runes, and one of blanks alone, declare nothing.
func TestNothing(t *testing.T) {
	for _, s := range []string{"", " ", "\t\r\n  ", "<!-- c -->", "<?p?>\n<!---->"} {
		d := fine(t, s, 0)
		if err := same(d, &declared{}); err != nil {
			t.Errorf("%q: %v", s, err)
		}
	}
}

// P16.1: places that may not be declare nothing, and that is Fine.
func TestPlaces(t *testing.T) {
	l := []rune("x<!ENTITY e 'v'>%p;")
	far := []int{math.MinInt, -2, -1, 0, 1, 5, 15, 16, 17, len(l), len(l) + 1, math.MaxInt}
	for _, from := range far {
		for _, to := range far {
			d, w := dtd.Build(l, from, to, 10)
			may := 0 <= from && from <= to && to <= len(l)
			_, is := d.Entity("e")
			switch {
			case from == 1 && to == 16:
				if !is || w != (dtd.Wrong{}) {
					t.Errorf("from %d to %d: %v, %v", from, to, is, w)
				}
			case !may, from == to:
				if w != (dtd.Wrong{}) || d == nil || len(d.Names()) != 0 || d.Spent() != 0 || d.Skipped() {
					t.Errorf("from %d to %d: %v, %v", from, to, d, w)
				}
			case (from == 1 || from == 16) && to == len(l):
				if d != nil || w != (dtd.Wrong{Code: dtd.Undeclared, At: 16}) {
					t.Errorf("from %d to %d: %v, %v", from, to, d, w)
				}
			case from == 1 && to == 17:
				if d != nil || w != (dtd.Wrong{Code: dtd.IsJunk, At: 16}) {
					t.Errorf("from %d to %d: %v, %v", from, to, d, w)
				}
			default:
				if d != nil || w != (dtd.Wrong{Code: dtd.IsJunk, At: from}) {
					t.Errorf("from %d to %d: %v, %v", from, to, d, w)
				}
			}
			if target, data, ok := dtd.PI(l, from, to); ok || target != "" || len(data) > 0 || dtd.Comment(l, from, to) {
				t.Errorf("from %d to %d is a comment or an instruction", from, to)
			}
		}
	}
	if d, w := dtd.Build(nil, 0, 0, 0); w != (dtd.Wrong{}) || d == nil || len(d.Names()) > 0 {
		t.Error("nothing is", d, w)
	}
}

// P16.1: what is wrong, and where it begins.
func TestWrong(t *testing.T) {
	const p = "<!ENTITY % p '"
	for _, c := range []struct {
		s        string
		code, at int
	}{
		{"x", dtd.IsJunk, 0},
		{"<!ELEMENT a ANY>x<!X>", dtd.IsJunk, 16},
		{"<!ELEMENT a ANY> ]", dtd.IsJunk, 17},
		{" <", dtd.IsJunk, 1},
		{"\x00", dtd.IsJunk, 0},
		{"&e;", dtd.IsJunk, 0},
		{"%", dtd.IsJunk, 0},
		{"%p", dtd.IsJunk, 0},
		{"% p;", dtd.IsJunk, 0},
		{"%1;", dtd.IsJunk, 0},
		{"<!--", dtd.IsJunk, 0},
		{"<!--->", dtd.IsJunk, 0},
		{"<?p?", dtd.IsJunk, 0},
		{"<!ENTITY e 'v>", dtd.IsJunk, 0},
		{"<!ENTITY e 'v'", dtd.IsJunk, 0},
		{" <a>", dtd.IsJunk, 1},
		{"<!>", dtd.IsDecl, 0},
		{"<!ENTITY e>", dtd.IsDecl, 0},
		{"<!ENTITY e '%p;'>", dtd.IsDecl, 0},
		{"<!ENTITY a:e 'v'>", dtd.IsDecl, 0},
		{"<![INCLUDE[<!ELEMENT a ANY>]]>", dtd.IsDecl, 0},
		{" <!ELEMENT a ANY><!ELEMENT b>", dtd.IsDecl, 17},
		{"<!-- -- -->", dtd.IsComment, 0},
		{"\n<!-- --->", dtd.IsComment, 1},
		{"<!-- \x01-->", dtd.IsComment, 0},
		{"<?xml version='1.0'?>", dtd.IsPI, 0},
		{"  <??>", dtd.IsPI, 2},
		{"<?a:b?>", dtd.IsPI, 0},
		{"<?a \x01?>", dtd.IsPI, 0},
		{"<? a?>", dtd.IsPI, 0},
		{"%p;", dtd.Undeclared, 0},
		{"<!ENTITY p ''>%p;", dtd.Undeclared, 14},
		{p + "'>%P;", dtd.Undeclared, 16},
		{" %p;" + p + "'>", dtd.Undeclared, 1},
		{"<!ENTITY % p 'x'>\n%p;", dtd.IsJunk, 18},
		{p + "<!X>'>%p;", dtd.IsDecl, 20},
		{p + " <!--a--a-->'>%p;", dtd.IsComment, 28},
		{p + "<?xml?>'> %p;", dtd.IsPI, 24},
		{p + "&#37;q;'>%p;", dtd.Undeclared, 23},
		{p + "&#37;p;'>%p;", dtd.Recursion, 23},
		{"<!ENTITY % q '&#37;p;'>" + p + "&#37;q;'> %p; %q;", dtd.Recursion, 47},
		{"<!ENTITY % q 'x'>" + p + " &#37;q;'>\n%p;", dtd.IsJunk, 42},
		{"<!ENTITY % p SYSTEM 's'>%p;x", dtd.IsJunk, 27},
		{"<!ENTITY % p '<!ENTITY e \"'>%p;\">", dtd.IsJunk, 28},
		{"<!X>%p;x", dtd.IsDecl, 0},
		{"%p;<!X>", dtd.Undeclared, 0},
		{"<!--a--a--><?xml?>", dtd.IsComment, 0},
		{"<?xml?><!--a--a-->", dtd.IsPI, 0},
	} {
		tells(t, c.s, 1000, c.code, c.at)
		l := []rune("zz" + c.s + "'>-->?>;")
		if d, w := dtd.Build(l, 2, len(l)-8, 1000); d != nil || w != (dtd.Wrong{Code: c.code, At: c.at + 2}) {
			t.Errorf("Build(%q) from 2 on tells %v, %v", string(l), d, w)
		}
	}
}

// P16.1, P16.2: the first declaration of a kind and a name is kept; other kinds of that name, and other names' attributes, are their own.
func TestFirstIsKept(t *testing.T) {
	d := fine(t, "<!ENTITY a '1'><!ENTITY % a '2'><!ELEMENT a ANY><!NOTATION a SYSTEM '3'><!ATTLIST a a CDATA '4' b CDATA '5'>"+
		"<!ENTITY a SYSTEM 's'><!ENTITY % a ''><!ELEMENT a EMPTY><!NOTATION a PUBLIC '6'><!ATTLIST a c (x|y) #FIXED 'x' a ID #IMPLIED c CDATA '7'><!ATTLIST a><!ATTLIST b a CDATA '8'>", 0)
	for _, c := range []struct {
		of   func(string) (decl.Decl, bool)
		want decl.Decl
	}{
		{d.Entity, decl.Decl{Kind: decl.Entity, Name: "a", Value: []rune("1")}},
		{d.Param, decl.Decl{Kind: decl.Param, Name: "a", Value: []rune("2")}},
		{d.Element, decl.Decl{Kind: decl.Element, Name: "a", Content: "ANY"}},
		{d.Notation, decl.Decl{Kind: decl.Notation, Name: "a", Outside: true, System: "3"}},
	} {
		if got, ok := c.of("a"); !ok || !alike(got, c.want) {
			t.Errorf("a is %+v, %v, want %+v", got, ok, c.want)
		}
		for _, other := range []string{"", "A", "b", "a "} {
			if got, ok := c.of(other); ok || !alike(got, decl.Decl{}) {
				t.Errorf("%q is %+v, %v", other, got, ok)
			}
		}
	}
	want := []decl.Att{
		{Name: "a", Type: "CDATA", Default: decl.Given, Value: []rune("4")}, {Name: "b", Type: "CDATA", Default: decl.Given, Value: []rune("5")},
		{Name: "c", Type: "ENUM", Words: []string{"x", "y"}, Default: decl.Fixed, Value: []rune("x")},
	}
	if got := d.Atts("a"); !alike(decl.Decl{Atts: got}, decl.Decl{Atts: want}) {
		t.Errorf("attributes of a: %+v", got)
	}
	if got := d.Atts("b"); len(got) != 1 || got[0].Name != "a" || string(got[0].Value) != "8" {
		t.Errorf("attributes of b: %+v", got)
	}
	if got := d.Atts("c"); len(got) != 0 {
		t.Errorf("attributes of c: %+v", got)
	}
}

// P16.2: the names of entities alone, rising by their bytes.
func TestNames(t *testing.T) {
	d := fine(t, "<!ENTITY b ''><!ENTITY \u00e9 ''><!ENTITY B ''><!ENTITY a.b ''><!ENTITY a ''><!ENTITY \U00010000 SYSTEM ''><!ENTITY \uff5e ''><!ENTITY _ ''>"+
		"<!ENTITY % p ''><!ELEMENT x ANY><!NOTATION y SYSTEM ''><!ATTLIST z>", 0)
	if got, want := d.Names(), []string{"B", "_", "a", "a.b", "b", "\u00e9", "\uff5e", "\U00010000"}; !slices.Equal(got, want) {
		t.Errorf("names %q, want %q", got, want)
	}
	if got := fine(t, "<!ENTITY % p ''>", 0).Names(); len(got) != 0 {
		t.Errorf("names %q", got)
	}
}

// chain is declarations of n Params, of which each but the first refers to the one ahead of it; the first stands for s.
// What is declared is numbered: the last is that of n.
func chain(n int, s string) string {
	all := "<!ENTITY % p1 '" + s + "'>"
	for i := 2; i <= n; i++ {
		all += fmt.Sprintf("<!ENTITY %% p%d '&#37;p%d;'>", i, i-1)
	}
	return all
}

// P16.1: 64 Params within one another are gone through, 65 are not, however they have been gone through ahead.
func TestDeep(t *testing.T) {
	for _, n := range []int{1, 2, 63, 64} {
		d := fine(t, chain(n, "<!ENTITY e \"1\">")+fmt.Sprintf("%%p%d;", n), 1<<20)
		if _, ok := d.Entity("e"); !ok {
			t.Errorf("%d Params within one another declare nothing", n)
		}
	}
	for _, n := range []int{65, 66, 100} {
		for _, s := range []string{"", "x", "<!ENTITY e \"1\">"} {
			all := chain(n, s)
			tells(t, all+fmt.Sprintf(" %%p%d;", n), 1<<20, dtd.Recursion, len(all)+1)
			if s != "x" {
				tells(t, all+fmt.Sprintf("%%p1;%%p64;%%p64;%%p%d;", n), 1<<20, dtd.Recursion, len(all)+14)
				tells(t, all+fmt.Sprintf("%%p2;%%p63;%%p%d;", n), 1<<20, dtd.Recursion, len(all)+9)
			}
		}
	}
	// What names something outside is passed over, and is gone through in none of them.
	d := fine(t, "<!ENTITY % o SYSTEM 's'>"+chain(64, "&#37;o;")+"%p64;", 1<<20)
	if !d.Skipped() {
		t.Error("nothing was skipped")
	}
}

// P16.1: a Param that is referred to within itself, at once or by others, ends it; one that is referred to twice, side by side, does not.
func TestRecursion(t *testing.T) {
	for n := 1; n <= 5; n++ {
		all := chain(n, fmt.Sprintf("&#37;p%d;", n))
		for i := 1; i <= n; i++ {
			tells(t, all+fmt.Sprintf("%%p%d;", i), 1<<20, dtd.Recursion, len(all))
		}
	}
	fine(t, "<!ENTITY % p ' '><!ENTITY % q '&#37;p;&#37;p;'>%q;%p;%q;", 1<<20)
	fine(t, "<!ENTITY % p '&#37;p;'>", 0)
}

// P16.1, P16.2: the budget is for all Params together; what they spent is told; the PERef that takes too much is the outermost one.
func TestBudget(t *testing.T) {
	const five, empty = "<!ENTITY % p '     '>", "<!ENTITY % p ''>"
	for _, c := range []struct {
		s     string
		spent int
	}{
		{"", 0}, {five, 0}, {five + "%p;", 5}, {five + "%p;%p;", 10}, {five + " %p; %p; %p;", 15}, {empty + "%p;%p;", 0}, {"<!ENTITY % p SYSTEM 'system'>%p;", 0},
		{five + "<!ENTITY % q '&#37;p;&#37;p;'>%q;", 16}, {five + "<!ENTITY % q '&#37;p;&#37;p;'>%p;%q;%q;", 37}, {five + strings.Repeat("%p;", 1000), 5000},
		{"<!ENTITY % p '\U0001F600'>", 0}, {"<!ENTITY % p '<!--\U0001F600\u00e9-->'>%p;", 9},
	} {
		for _, budget := range []int{c.spent, c.spent + 1, 1 << 20, math.MaxInt} {
			if d := fine(t, c.s, budget); d.Spent() != c.spent {
				t.Errorf("%.60q spends %d, want %d", c.s, d.Spent(), c.spent)
			}
		}
		if _, w := build(c.s, c.spent-1); c.spent > 0 && w.Code != dtd.Over {
			t.Errorf("%.60q tells %v with a budget of %d", c.s, w, c.spent-1)
		}
	}
	for _, less := range []int{4, 1, 0, -1, math.MinInt} {
		tells(t, five+"\n%p;", less, dtd.Over, len(five)+1)
		fine(t, five, less)
		fine(t, empty+"%p;%p;", less)
	}
	tells(t, "<!ENTITY % p ' '>%p;", 0, dtd.Over, 17)
	tells(t, "<!ENTITY % p ' '>%p;", -1, dtd.Over, 17)
	fine(t, "<!ENTITY % p ' '>%p;", 1)
	tells(t, five+"%p;%p;", 9, dtd.Over, len(five)+3)
	tells(t, five+"%p;<!ENTITY % q ' &#37;p;'>%q;", 13, dtd.Over, len(five)+27)
	tells(t, five+"%p;<!ENTITY % q ' &#37;p;x'>%q;", 13, dtd.Over, len(five)+28)
	tells(t, five+"%p;<!ENTITY % q ' &#37;p;x'>%q;", 15, dtd.IsJunk, len(five)+28)
	tells(t, "<!ENTITY % p '&#37;p;'>%p;", 0, dtd.Over, 23)
	tells(t, "<!ENTITY % p '&#37;p;'>%p;", 3, dtd.Recursion, 23)
}

// P16.2: what is passed over is skipped: that a Param names something outside does not do.
func TestSkipped(t *testing.T) {
	for s, want := range map[string]bool{
		"": false, "<!ENTITY % p SYSTEM 's'>": false, "<!ENTITY % p SYSTEM 's'>%p;": true, "<!ENTITY % p PUBLIC 'p' 's'> %p; ": true, "<!ENTITY e SYSTEM 's'>": false,
		"<!ENTITY % p ''><!ENTITY % p SYSTEM 's'>%p;": false, "<!ENTITY % p SYSTEM 's'><!ENTITY % p 'x'>%p;": true, "<!ENTITY % o SYSTEM 's'><!ENTITY % p '&#37;o;'>": false,
		"<!ENTITY % o SYSTEM 's'><!ENTITY % p '&#37;o;'>%p;": true, "<!ENTITY % p SYSTEM 's'>%p;<!ENTITY e ''>": true,
	} {
		if d := fine(t, s, 100); d.Skipped() != want {
			t.Errorf("%q: skipped is %v", s, d.Skipped())
		}
	}
}

// P16.1: Params that refer to each other at random, by what is found plainly: at each budget and depth.
func TestParamsByChance(t *testing.T) {
	chance := rand.New(rand.NewSource(16))
	for range 3000 {
		n := 2 + chance.Intn(70)
		var all strings.Builder
		for i := range n {
			fmt.Fprintf(&all, "<!ENTITY %% p%d '%s", i, strings.Repeat(" ", chance.Intn(3)))
			for range 1 + chance.Intn(3) {
				if i > 0 && chance.Intn(30) > 0 {
					fmt.Fprintf(&all, "&#37;p%d;", max(0, i-1-chance.Intn(2)*chance.Intn(3)))
				}
			}
			if chance.Intn(100) == 0 {
				fmt.Fprintf(&all, "&#37;p%d;", min(n-1, i+chance.Intn(2)))
			}
			all.WriteString("'>")
		}
		for range 1 + chance.Intn(6) {
			fmt.Fprintf(&all, "%%p%d;", chance.Intn(n))
		}
		agree(t, all.String(), 1<<chance.Intn(14)+chance.Intn(3))
	}
}

// P1: Params that refer to each other many times over end in good time, whatever the budget is.
func TestLongDoubling(t *testing.T) {
	all := "<!ENTITY % p0 '<!ENTITY e \"1\">'>"
	for i := 1; i < 63; i++ {
		all += fmt.Sprintf("<!ENTITY %% p%d '&#37;p%d;&#37;p%d;'>", i, i-1, i-1)
	}
	at := len(all)
	tells(t, all+"%p62;", math.MaxInt, dtd.Over, at)
	tells(t, all+"%p40;%p62;", 1<<20, dtd.Over, at)
	d := fine(t, all+"%p50;%p50;", math.MaxInt)
	// Each doubles what the one ahead spends, and adds its own runes: eight, and ten from the one on that refers to p10.
	spent := 15
	for i := 1; i <= 50; i++ {
		own := 8
		if i > 10 {
			own = 10
		}
		spent = 2*spent + own
	}
	if d.Spent() != 2*spent {
		t.Errorf("spent %d, want %d", d.Spent(), 2*spent)
	}
	if _, ok := d.Entity("e"); !ok {
		t.Error("e is not declared")
	}
}

// P1: long subsets, and such as do not end, are gone through in good time.
func TestLong(t *testing.T) {
	const n = 50000
	long := strings.Repeat
	for s, code := range map[string]int{
		long("<!ELEMENT a ANY>", n): dtd.Fine, long("<!--c-->\n", n): dtd.Fine, long("<?p d?>", n): dtd.Fine, long("<!--", n): dtd.IsJunk, long("<?p ", n): dtd.IsJunk, "<!--" + long("-", n) + "->": dtd.IsComment,
		"<?p" + long(" ", n) + "?>": dtd.Fine, "<?p " + long("?", n) + "?>": dtd.Fine, "<!ATTLIST a" + long(" b CDATA ''", n) + ">": dtd.Fine, "<!ENTITY % p ''>" + long("%p;", n): dtd.Fine, long("<!ENTITY e '", n): dtd.IsJunk, long("<!ENTITY e '", n+1) + "v>'>": dtd.IsDecl,
	} {
		if _, w := build(s, 0); w.Code != code {
			t.Errorf("%.40q.. tells %v", s, w)
		}
	}
	var all strings.Builder
	for i := range n {
		fmt.Fprintf(&all, "<!ATTLIST a b%d CDATA ''><!ENTITY e%d ''>", i, i)
	}
	if d := fine(t, all.String(), 0); len(d.Atts("a")) != n || len(d.Names()) != n {
		t.Error("not all is kept")
	}
}

// P16.2: a nil one, and one made by hand, have nothing.
func TestNil(t *testing.T) {
	for _, d := range []*dtd.DTD{nil, {}} {
		for _, name := range []string{"", "a", "lt", "\xff"} {
			for _, of := range []func(string) (decl.Decl, bool){d.Entity, d.Param, d.Element, d.Notation} {
				if got, ok := of(name); ok || !reflect.DeepEqual(got, decl.Decl{}) {
					t.Errorf("%q is %+v, %v", name, got, ok)
				}
			}
			if got := d.Atts(name); len(got) != 0 {
				t.Errorf("attributes of %q: %+v", name, got)
			}
		}
		if len(d.Names()) != 0 || d.Skipped() || d.Spent() != 0 {
			t.Error("it has", d.Names(), d.Skipped(), d.Spent())
		}
	}
}

// P16.2: comments by hand.
func TestComment(t *testing.T) {
	for _, s := range []string{"<!---->", "<!-- -->", "<!--a-b-c-->", "<!---a-->", "<!--<!->-->", "<!-->-->", "<!--\r\n\t\u00e9\U0001F600-->", "<!--- - -->"} {
		if l := []rune(s); !dtd.Comment(l, 0, len(l)) {
			t.Errorf("Comment(%q) is false", s)
		}
	}
	for _, s := range []string{
		"", "<", "-->", "<!--", "<!-->", "<!--->", "<!-----", "<!----->", "<!--a--->", "<!--a--b-->", "<!----a-->", "<!--a-->b", "b<!--a-->", "<!--a-->-->", "<!--a--", "<!--a->", "<!-a-->", "<--a-->", "!--a-->",
		"<!--\x00-->", "<!--\ufffe-->", "<!--a\x1f-->", "<!------>", "<!--a-->\n",
	} {
		if l := []rune(s); dtd.Comment(l, 0, len(l)) {
			t.Errorf("Comment(%q) is true", s)
		}
	}
	if !dtd.Comment([]rune("x<!--a-->y"), 1, 9) || dtd.Comment([]rune("x<!--a-->y"), 1, 8) || dtd.Comment([]rune("x<!---->y"), 2, 8) {
		t.Error("a comment in a row is not told as it must be")
	}
	if dtd.Comment([]rune{'<', '!', '-', '-', api.Bad, '-', '-', '>'}, 0, 8) {
		t.Error("bytes that are no rune stand in a comment")
	}
}

// P16.2: instructions by hand.
func TestPI(t *testing.T) {
	for s, want := range map[string][2]string{
		"<?a?>": {"a", ""}, "<?a ?>": {"a", ""}, "<?a \t\r\n?>": {"a", ""}, "<?a b?>": {"a", "b"}, "<?a  b c ?>": {"a", "b c "}, "<?a ??>": {"a", "?"}, "<?a b? >?>": {"a", "b? >"}, "<?a >?>": {"a", ">"},
		"<?a <?b?>": {"a", "<?b"}, "<?a\r\nb\r\n\rc\rd\n?>": {"a", "b\n\nc\nd\n"}, "<?xml-stylesheet href='x'?>": {"xml-stylesheet", "href='x'"}, "<?xm l?>": {"xm", "l"}, "<?xmlx?>": {"xmlx", ""}, "<?_.-1 \u00e9?>": {"_.-1", "\u00e9"},
		"<?\u00e9\u00b7 \U0001F600&%--?>": {"\u00e9\u00b7", "\U0001F600&%--"}, "<?XMLS?>": {"XMLS", ""}, "<?xxml?>": {"xxml", ""},
	} {
		l := []rune(s)
		if target, data, ok := dtd.PI(l, 0, len(l)); !ok || target != want[0] || string(data) != want[1] {
			t.Errorf("PI(%q) = %q, %q, %v, want %q", s, target, string(data), ok, want)
		}
	}
	for _, s := range []string{
		"", "<", "<?", "<?>", "<??>", "<??", "?>", "<? ?>", "<? a?>", "<?a", "<?a>", "<?a?", "<?a ?", "<?a b", "<?a?b?>", "<?a/b?>", "<?1?>", "<?-a?>", "<?a:b?>", "<?:a?>", "<?a:?>", "<?a b?>?>", "<?a?>?>", "<?a?> ", " <?a?>", "<?a?>b",
		"<?xml?>", "<?XML?>", "<?Xml?>", "<?xMl?>", "<?xmL?>", "<?XMl ?>", "<?xml version='1.0'?>", "<?a\u00d7?>", "<?a \x00?>", "<?a b\ufffe?>", "<?a\x1fb?>", "<?a\u00a0b?>",
	} {
		l := []rune(s)
		if target, data, ok := dtd.PI(l, 0, len(l)); ok || target != "" || len(data) > 0 {
			t.Errorf("PI(%q) = %q, %q, %v, want nothing, false", s, target, string(data), ok)
		}
	}
	if target, data, ok := dtd.PI([]rune("x<?a b?>y"), 1, 8); !ok || target != "a" || string(data) != "b" {
		t.Errorf("an instruction in a row is %q, %q, %v", target, string(data), ok)
	}
	if _, _, ok := dtd.PI([]rune("<?a b?>"), 0, 6); ok {
		t.Error("a part of an instruction is one")
	}
}

// Rules 4 and 5: what is handed in is neither changed nor kept, and what is answered is new each time.
func TestAnswersAreNew(t *testing.T) {
	const s = "<!ENTITY e 'v'><!ENTITY % p ' <!ENTITY f \"w\">'>%p;<!ATTLIST a b (c|d) 'v' e CDATA 'w'><!ELEMENT a ANY>"
	l := []rune(s)
	d, _ := dtd.Build(l, 0, len(l), 100)
	if string(l) != s {
		t.Error("Build changes what is handed in")
	}
	for i := range l {
		l[i] = 'z'
	}
	for range 2 {
		for name, want := range map[string]string{"e": "v", "f": "w"} {
			got, ok := d.Entity(name)
			if !ok || string(got.Value) != want {
				t.Errorf("%s stands for %q", name, string(got.Value))
			}
			got.Value = append(got.Value, 'y')
			got.Value[0] = 'y'
		}
		p, _ := d.Param("p")
		if string(p.Value) != " <!ENTITY f \"w\">" {
			t.Errorf("p stands for %q", string(p.Value))
		}
		p.Value[0] = 'y'
		atts := d.Atts("a")
		if len(atts) != 2 || !slices.Equal(atts[0].Words, []string{"c", "d"}) || string(atts[0].Value) != "v" || string(atts[1].Value) != "w" || atts[1].Name != "e" {
			t.Errorf("the attributes are %+v", atts)
		}
		_ = append(atts[0].Words[:2:2], "y")
		atts[0].Words[1], atts[0].Value[0] = "y", 'y'
		_ = append(atts[0].Value, 'y')
		atts[1] = decl.Att{}
		_ = append(atts[:1], decl.Att{})
		names := d.Names()
		if !slices.Equal(names, []string{"e", "f"}) {
			t.Errorf("the names are %q", names)
		}
		names[0] = "y"
	}
	pi := []rune("<?a b\r?>")
	_, data, _ := dtd.PI(pi, 0, len(pi))
	data[0] = 'y'
	if string(pi) != "<?a b\r?>" {
		t.Error("PI changes what is handed in")
	}
	_, data, _ = dtd.PI(pi, 0, len(pi))
	pi[4] = 'z'
	if string(data) != "b\n" {
		t.Error("PI keeps what is handed in")
	}
}

// P1: all short rows of odd runes and signs end without a panic.
func TestOddRows(t *testing.T) {
	signs := append([]rune("<!?-% p;'>x"), api.Bad, math.MinInt32, math.MaxInt32, 0, 0xD800, 0xFFFE, 0x110000)
	for _, a := range signs {
		for _, b := range signs {
			for _, c := range signs {
				l := []rune{a, b, c}
				dtd.Build(l, 0, 3, math.MaxInt)
				dtd.Comment(l, 0, 3)
				dtd.PI(l, 0, 3)
			}
		}
	}
}

// The chapter's constants have the numbers that it tells.
func TestConstants(t *testing.T) {
	codes := []int{dtd.Fine, dtd.IsJunk, dtd.IsDecl, dtd.IsComment, dtd.IsPI, dtd.Undeclared, dtd.Recursion, dtd.Over}
	if !slices.Equal(codes, []int{0, 1, 2, 3, 4, 5, 6, 7}) {
		t.Error("the numbers are", codes)
	}
}

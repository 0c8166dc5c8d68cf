package splice_test

import (
	"bytes"
	"math"
	"slices"
	"strings"
	"testing"

	"rubric/api"
	"rubric/span"
	"rubric/splice"
)

// change is a part of bytes, and what stands there then.
func change(from, to int, s string) splice.Change {
	return splice.Change{At: span.Span{From: from, To: to}, B: []byte(s)}
}

// changes is a list of such.
type changes []splice.Change

// same tells whether two changes are.
func same(a, b splice.Change) bool { return a.At == b.At && bytes.Equal(a.B, b.B) }

// equal tells whether two lists of changes are.
func equal(a, b []splice.Change) bool { return slices.EqualFunc(a, b, same) }

// clone is a list of changes in memory of its own.
func clone(l []splice.Change) []splice.Change {
	var all []splice.Change
	for _, c := range l {
		all = append(all, change(c.At.From, c.At.To, string(c.B)))
	}
	return all
}

// ordered is a list with each change put behind all those that it must not stand ahead of.
func ordered(l []splice.Change) []splice.Change {
	var all []splice.Change
	for _, c := range l {
		i := len(all)
		for i > 0 && (c.At.From < all[i-1].At.From || c.At.From == all[i-1].At.From && c.At.To < all[i-1].At.To) {
			i--
		}
		all = slices.Insert(all, i, c)
	}
	return all
}

// refused is the error that the chapter asks for of changes alone: all are looked at, and each against all behind it.
func refused(l []splice.Change) api.Errno {
	for _, c := range l {
		if c.At.From < 0 || c.At.From > c.At.To {
			return api.ErrRange
		}
	}
	l = ordered(l)
	for i, c := range l {
		for _, behind := range l[i+1:] {
			if behind.At.From < c.At.To {
				return api.ErrTaken
			}
		}
	}
	return api.OK
}

// done is a text with changes that may be, made from the last one on, so that places ahead stay.
func done(s string, l []splice.Change) string {
	for _, c := range slices.Backward(ordered(l)) {
		s = s[:c.At.From] + string(c.B) + s[c.At.To:]
	}
	return s
}

// undone are the changes that lead back: each begins behind what all ahead of it have added and taken.
func undone(s string, l []splice.Change) []splice.Change {
	var back []splice.Change
	l = ordered(l)
	for i, c := range l {
		from := c.At.From
		for _, ahead := range l[:i] {
			from += len(ahead.B) - (ahead.At.To - ahead.At.From)
		}
		back = append(back, change(from, from+len(c.B), s[c.At.From:c.At.To]))
	}
	return back
}

// sorts holds Sorted of a list against the chapter.
func sorts(t *testing.T, l []splice.Change) {
	t.Helper()
	got, e := splice.Sorted(l)
	want := refused(l)
	switch {
	case e != want:
		t.Errorf("Sorted(%v) is refused by %d, want %d", l, e, want)
	case e != api.OK && len(got) != 0:
		t.Errorf("Sorted(%v) is refused, and has %v", l, got)
	case e == api.OK && !equal(got, ordered(l)):
		t.Errorf("Sorted(%v) = %v", l, got)
	}
}

// applies holds Apply of a list to a text against the chapter.
func applies(t *testing.T, s string, l []splice.Change) {
	t.Helper()
	want := refused(l)
	beyond := slices.ContainsFunc(l, func(c splice.Change) bool { return c.At.To > len(s) })
	if want == api.OK && beyond {
		want = api.ErrRange
	}
	got, back, e := splice.Apply([]byte(s), l)
	if e != want {
		t.Errorf("Apply(%q, %v) is refused by %d, want %d", s, l, e, want)
		return
	}
	if e != api.OK {
		if len(got) != 0 || len(back) != 0 {
			t.Errorf("Apply(%q, %v) is refused, and has %q, %v", s, l, got, back)
		}
		return
	}
	if string(got) != done(s, l) || !equal(back, undone(s, l)) {
		t.Errorf("Apply(%q, %v) = %q, %v, want %q, %v", s, l, got, back, done(s, l), undone(s, l))
	}
	again, forth, e := splice.Apply(got, back)
	if e != api.OK || string(again) != s || !equal(forth, ordered(l)) {
		t.Errorf("Apply(%q, %v) = %q, %v, %d, want %q, %v", got, back, again, forth, e, s, ordered(l))
	}
}

// lists are all those of at most n of some changes.
func lists(n int, some []splice.Change, f func(l []splice.Change)) {
	f(nil)
	if n == 0 {
		return
	}
	for _, c := range some {
		lists(n-1, some, func(l []splice.Change) { f(append([]splice.Change{c}, l...)) })
	}
}

// P12.1, P12.2, P12.4: all pairs of changes of short bytes, at all places and beside them.
func TestAllPairs(t *testing.T) {
	var some []splice.Change
	for _, from := range []int{math.MinInt, -1, 0, 1, 2, 3, 4, math.MaxInt} {
		for _, to := range []int{math.MinInt, -1, 0, 1, 2, 3, 4, math.MaxInt} {
			some = append(some, change(from, to, ""), change(from, to, "x"), change(from, to, "yz"))
		}
	}
	lists(2, some, func(l []splice.Change) {
		sorts(t, l)
		applies(t, "abc", l)
		if len(l) < 2 {
			applies(t, "", l)
			applies(t, "a", l)
		}
	})
}

// P12.1, P12.2, P12.4: all lists of at most four changes of places that are, which put nothing, or something that tells them apart.
func TestAllShortLists(t *testing.T) {
	var some []splice.Change
	for from := range 4 {
		for to := from; to < 4; to++ {
			some = append(some, change(from, to, ""), change(from, to, string(rune('k'+len(some)))))
		}
	}
	some = append(some, change(2, 1, "x"))
	lists(3, some, func(l []splice.Change) {
		sorts(t, l)
		applies(t, "abc", l)
		applies(t, "ab", l)
	})
	// Of changes of no width, and of one byte, some more: their order is what counts.
	few := []splice.Change{change(0, 0, "1"), change(0, 0, "2"), change(0, 1, "3"), change(0, 1, ""), change(1, 1, "4"), change(1, 1, ""), change(1, 2, "5"), change(1, 2, "")}
	lists(5, few, func(l []splice.Change) {
		sorts(t, l)
		applies(t, "ab", l)
	})
}

// P12.1: by hand.
func TestSorted(t *testing.T) {
	for _, c := range []struct {
		l, want changes
		e       api.Errno
	}{
		{nil, nil, api.OK},
		{changes{}, nil, api.OK},
		{changes{change(0, 0, "")}, changes{change(0, 0, "")}, api.OK},
		{changes{change(5, 9, "x")}, changes{change(5, 9, "x")}, api.OK},
		{changes{change(math.MaxInt, math.MaxInt, "x")}, changes{change(math.MaxInt, math.MaxInt, "x")}, api.OK},
		{changes{change(0, math.MaxInt, "x")}, changes{change(0, math.MaxInt, "x")}, api.OK},
		{changes{change(3, 4, "b"), change(1, 2, "a")}, changes{change(1, 2, "a"), change(3, 4, "b")}, api.OK},
		{changes{change(1, 2, "b"), change(1, 1, "a")}, changes{change(1, 1, "a"), change(1, 2, "b")}, api.OK}, // the same From: by To
		{changes{change(1, 1, "b"), change(1, 1, "a")}, changes{change(1, 1, "b"), change(1, 1, "a")}, api.OK}, // alike: as they stand
		{changes{change(1, 1, "z"), change(0, 1, ""), change(1, 1, "y")}, changes{change(0, 1, ""), change(1, 1, "z"), change(1, 1, "y")}, api.OK},
		{changes{change(2, 2, "c"), change(1, 2, "b"), change(1, 1, "a")}, changes{change(1, 1, "a"), change(1, 2, "b"), change(2, 2, "c")}, api.OK},
		{changes{change(1, 2, "a"), change(2, 3, "b")}, changes{change(1, 2, "a"), change(2, 3, "b")}, api.OK}, // one ends where the next one begins
		{changes{change(1, 3, "a"), change(2, 3, "b")}, nil, api.ErrTaken},                                     // one byte beyond it
		{changes{change(2, 3, "b"), change(1, 3, "a")}, nil, api.ErrTaken},
		{changes{change(1, 2, "a"), change(1, 2, "a")}, nil, api.ErrTaken},
		{changes{change(1, 3, ""), change(2, 2, "")}, nil, api.ErrTaken},
		{changes{change(0, math.MaxInt, ""), change(math.MaxInt-1, math.MaxInt, "")}, nil, api.ErrTaken},
		{changes{change(-1, 2, "a")}, nil, api.ErrRange},
		{changes{change(-1, -1, "")}, nil, api.ErrRange},
		{changes{change(2, 1, "a")}, nil, api.ErrRange},
		{changes{change(math.MaxInt, math.MinInt, "")}, nil, api.ErrRange},
		{changes{change(math.MinInt, math.MaxInt, "")}, nil, api.ErrRange},
		{changes{change(0, 1, "a"), change(2, 1, "b")}, nil, api.ErrRange},
		{changes{change(1, 3, "a"), change(2, 3, "b"), change(4, 3, "c")}, nil, api.ErrRange}, // both errors: the first one
		{changes{change(4, 3, "c"), change(1, 3, "a"), change(2, 3, "b")}, nil, api.ErrRange},
		{changes{change(1, 3, "a"), change(1, 3, "b"), change(-2, -1, "c")}, nil, api.ErrRange},
	} {
		got, e := splice.Sorted(c.l)
		if e != c.e || !equal(got, c.want) {
			t.Errorf("Sorted(%v) = %v, %d, want %v, %d", c.l, got, e, c.want, c.e)
		}
	}
}

// P12.2: by hand.
func TestApply(t *testing.T) {
	for _, c := range []struct {
		s    string
		l    changes
		want string
		back changes
		e    api.Errno
	}{
		{"abc", changes{change(0, 1, "x"), change(2, 2, "yy")}, "xbyyc", changes{change(0, 1, "a"), change(2, 4, "")}, api.OK}, // the chapter's example
		{"abc", nil, "abc", nil, api.OK},
		{"", nil, "", nil, api.OK},
		{"", changes{change(0, 0, "x")}, "x", changes{change(0, 1, "")}, api.OK},
		{"", changes{change(0, 0, "")}, "", changes{change(0, 0, "")}, api.OK},
		{"abc", changes{change(0, 3, "")}, "", changes{change(0, 0, "abc")}, api.OK},
		{"abc", changes{change(3, 3, "x")}, "abcx", changes{change(3, 4, "")}, api.OK},
		{"abc", changes{change(1, 2, "\xFF\x00")}, "a\xFF\x00c", changes{change(1, 3, "b")}, api.OK},
		{"abc", changes{change(2, 3, "2"), change(0, 1, "0")}, "0b2", changes{change(0, 1, "a"), change(2, 3, "c")}, api.OK}, // the places are those of the bytes as they were, the order is that of places
		{"abc", changes{change(1, 1, "y"), change(1, 1, "x")}, "ayxbc", changes{change(1, 2, ""), change(2, 3, "")}, api.OK},
		{"abc", changes{change(1, 2, "B"), change(1, 1, "x"), change(2, 2, "y")}, "axByc", changes{change(1, 2, ""), change(2, 3, "b"), change(3, 4, "")}, api.OK},
		{"abc", changes{change(1, 2, ""), change(0, 1, ""), change(2, 3, "")}, "", changes{change(0, 0, "a"), change(0, 0, "b"), change(0, 0, "c")}, api.OK},
		{"abcdef", changes{change(0, 2, "1"), change(2, 4, "234"), change(4, 6, "")}, "1234", changes{change(0, 1, "ab"), change(1, 4, "cd"), change(4, 4, "ef")}, api.OK},
		{"abc", changes{change(3, 4, "x")}, "", nil, api.ErrRange},
		{"abc", changes{change(4, 4, "")}, "", nil, api.ErrRange},
		{"", changes{change(0, 1, "")}, "", nil, api.ErrRange},
		{"abc", changes{change(0, 1, "x"), change(1, 4, "")}, "", nil, api.ErrRange},
		{"abc", changes{change(0, math.MaxInt, "x")}, "", nil, api.ErrRange},
		{"abc", changes{change(-1, 1, "x")}, "", nil, api.ErrRange},
		{"abc", changes{change(2, 1, "x")}, "", nil, api.ErrRange},
		{"abc", changes{change(0, 2, "x"), change(1, 3, "y")}, "", nil, api.ErrTaken},
		{"abc", changes{change(0, 2, "x"), change(1, 9, "y")}, "", nil, api.ErrTaken}, // both errors: Sorted's first
		{"abc", changes{change(9, 9, "z"), change(0, 2, "x"), change(1, 2, "y")}, "", nil, api.ErrTaken},
		{"abc", changes{change(0, 2, "x"), change(1, 9, "y"), change(3, 2, "z")}, "", nil, api.ErrRange},
	} {
		got, back, e := splice.Apply([]byte(c.s), c.l)
		if string(got) != c.want || !equal(back, c.back) || e != c.e {
			t.Errorf("Apply(%q, %v) = %q, %v, %d, want %q, %v, %d", c.s, c.l, got, back, e, c.want, c.back, c.e)
		}
	}
	if got, back, e := splice.Apply(nil, changes{{}}); len(got) != 0 || !equal(back, changes{{}}) || e != api.OK {
		t.Errorf("Apply of the zero change to nil = %q, %v, %d", got, back, e)
	}
	// What lies behind the end of bytes, within their capacity, is none of them.
	if got, back, e := splice.Apply(append(make([]byte, 0, 9), "abc"...), changes{change(3, 4, "")}); len(got) != 0 || len(back) != 0 || e != api.ErrRange {
		t.Errorf("Apply beyond the end = %q, %v, %d", got, back, e)
	}
}

// P12.1, P12.2, P12.4: many changes at once, in any order, end soon.
func TestManyChanges(t *testing.T) {
	const many = 1 << 18
	s := strings.Repeat("abcd", many)
	var l []splice.Change
	var want strings.Builder
	for i := range many {
		l = append(l, change(4*i+1, 4*i+3, "x"), change(4*i+3, 4*i+3, "yyy"))
		want.WriteString("axyyyd")
	}
	turned := slices.Clone(l)
	slices.Reverse(turned)
	mixed := make([]splice.Change, len(l))
	for i, c := range l {
		mixed[(i*7919)%len(l)] = c
	}
	for _, some := range [][]splice.Change{l, turned, mixed} {
		sorted, e := splice.Sorted(some)
		if e != api.OK || !equal(sorted, l) {
			t.Fatalf("Sorted has %d, %d", len(sorted), e)
		}
		got, back, e := splice.Apply([]byte(s), some)
		if e != api.OK || string(got) != want.String() || len(back) != len(l) {
			t.Fatalf("Apply has %d bytes, %d changes that lead back, %d", len(got), len(back), e)
		}
		again, forth, e := splice.Apply(got, back)
		if e != api.OK || string(again) != s || !equal(forth, l) {
			t.Fatalf("the way back has %d bytes, %d changes, %d", len(again), len(forth), e)
		}
	}
	late := append(slices.Clone(mixed), change(4*many-2, 4*many-1, ""))
	if got, e := splice.Sorted(late); e != api.ErrTaken || len(got) != 0 {
		t.Errorf("Sorted of many of which two meet is %d", e)
	}
	late[len(l)] = change(4*many, 4*many+1, "")
	if got, back, e := splice.Apply([]byte(s), late); e != api.ErrRange || len(got) != 0 || len(back) != 0 {
		t.Errorf("Apply of many of which one ends beyond the end is %d", e)
	}
	// Many that are alike stand as they do.
	var alike []splice.Change
	for i := range 5000 {
		alike = append(alike, change(1, 1, string(rune(0x4E00+i))))
	}
	if got, e := splice.Sorted(alike); e != api.OK || !equal(got, alike) {
		t.Errorf("Sorted of many that are alike is %d", e)
	}
}

// leastChange is the one that Diff is to answer, by trying: the longest beginning, then the longest end behind it.
func leastChange(a, b string) splice.Change {
	for from := min(len(a), len(b)); from >= 0; from-- {
		if a[:from] != b[:from] {
			continue
		}
		for end := min(len(a), len(b)) - from; end >= 0; end-- {
			if strings.HasSuffix(b, a[len(a)-end:]) {
				return change(from, len(a)-end, b[from:len(b)-end])
			}
		}
	}
	panic("both have at least nothing in common")
}

// differs holds Diff of two texts against the chapter.
func differs(t *testing.T, a, b string) {
	t.Helper()
	got, ok := splice.Diff([]byte(a), []byte(b))
	if a == b {
		if ok || got.At != (span.Span{}) || len(got.B) != 0 {
			t.Errorf("Diff(%q, %q) = %v, %v", a, b, got, ok)
		}
		return
	}
	if !ok || !same(got, leastChange(a, b)) {
		t.Errorf("Diff(%q, %q) = %v, %v, want %v", a, b, got, ok, leastChange(a, b))
	}
	made, back, e := splice.Apply([]byte(a), []splice.Change{got})
	if e != api.OK || string(made) != b || len(back) != 1 {
		t.Errorf("Apply of Diff(%q, %q) = %q, %v, %d", a, b, made, back, e)
	}
}

// P12.3, P12.4: all pairs of short bytes.
func TestAllDiffs(t *testing.T) {
	var texts []string
	var grow func(s string)
	grow = func(s string) {
		texts = append(texts, s)
		if len(s) < 5 {
			grow(s + "a")
			grow(s + "b")
		}
		if len(s) < 3 {
			grow(s + "\xFF")
		}
	}
	grow("")
	for _, a := range texts {
		for _, b := range texts {
			differs(t, a, b)
		}
	}
}

// P12.3: by hand.
func TestDiff(t *testing.T) {
	for _, c := range []struct {
		a, b string
		want splice.Change
		ok   bool
	}{
		{"", "", splice.Change{}, false},
		{"abc", "abc", splice.Change{}, false},
		{"", "abc", change(0, 0, "abc"), true},
		{"abc", "", change(0, 3, ""), true},
		{"abc", "abcd", change(3, 3, "d"), true}, // one is the other's beginning
		{"abcd", "abc", change(3, 4, ""), true},
		{"bcd", "abcd", change(0, 0, "a"), true}, // one is the other's end
		{"abcd", "bcd", change(0, 1, ""), true},
		{"aa", "aaa", change(2, 2, "a"), true}, // the beginning and the end would overlap
		{"aaa", "aa", change(2, 3, ""), true},
		{"abab", "ab", change(2, 4, ""), true},
		{"ab", "abab", change(2, 2, "ab"), true},
		{"aba", "ababa", change(3, 3, "ba"), true},
		{"ababa", "aba", change(3, 5, ""), true},
		{"axa", "aya", change(1, 2, "y"), true},
		{"axxa", "axa", change(2, 3, ""), true},
		{"axa", "axxa", change(2, 2, "x"), true},
		{"abc", "xyz", change(0, 3, "xyz"), true},
		{"a\x00b", "a\xFFb", change(1, 2, "\xFF"), true},
	} {
		got, ok := splice.Diff([]byte(c.a), []byte(c.b))
		if ok != c.ok || !same(got, c.want) {
			t.Errorf("Diff(%q, %q) = %v, %v, want %v, %v", c.a, c.b, got, ok, c.want, c.ok)
		}
	}
	for _, c := range [][2][]byte{{nil, nil}, {nil, {}}, {{}, nil}} {
		if got, ok := splice.Diff(c[0], c[1]); ok || got.At != (span.Span{}) || len(got.B) != 0 {
			t.Errorf("Diff of no bytes and of none = %v, %v", got, ok)
		}
	}
}

// P12.3: long bytes end soon.
func TestDiffOfLongBytes(t *testing.T) {
	const many = api.MaxBytes
	a := bytes.Repeat([]byte("a"), many)
	if got, ok := splice.Diff(a, a[1:]); !ok || !same(got, change(many-1, many, "")) {
		t.Errorf("Diff with one less is at %v, %v", got.At, ok)
	}
	b := slices.Clone(a)
	b[many/2] = 'b'
	if got, ok := splice.Diff(a, b); !ok || !same(got, change(many/2, many/2+1, "b")) {
		t.Errorf("Diff with one that is other is at %v, %v", got.At, ok)
	}
	if got, ok := splice.Diff(a, slices.Clone(a)); ok || got.At != (span.Span{}) || len(got.B) != 0 {
		t.Errorf("Diff of the same is at %v, %v", got.At, ok)
	}
}

// scribble writes into changes and their bytes, and behind them as far as there is room.
func scribble(l []splice.Change) {
	for _, c := range l {
		over(c.B)
	}
	l = l[:cap(l)]
	for i := range l {
		l[i] = change(7, 5, "!")
	}
}

// over writes into bytes, and behind them as far as there is room.
func over(b []byte) {
	b = b[:cap(b)]
	for i := range b {
		b[i] = '!'
	}
}

// roomy is a list of changes whose bytes, and which itself, have room behind them.
func roomy(l []splice.Change) []splice.Change {
	all := make([]splice.Change, 0, len(l)+9)
	for _, c := range l {
		all = append(all, splice.Change{At: c.At, B: append(make([]byte, 0, 99), c.B...)})
	}
	return all
}

// The rules that hold everywhere, 4: what is handed in stays as it is, and shares nothing with the answers; these share nothing with one another.
func TestAnswersAreNew(t *testing.T) {
	const s = "abcdef"
	for _, l := range [][]splice.Change{
		{},
		{change(0, 0, "")},
		{change(0, 6, "wxyz")},
		{change(4, 5, "xx"), change(2, 2, "y"), change(0, 2, "")},
		{change(0, 1, "x"), change(1, 2, "y"), change(2, 3, ""), change(3, 6, "zzz")},
	} {
		given := roomy(l)
		sorted, _ := splice.Sorted(given)
		scribble(sorted)
		if !equal(given, l) || !equal(given[:len(l)+1], append(clone(l), splice.Change{})) {
			t.Errorf("what Sorted answers shares memory with %v, which is %v now", l, given[:len(l)+1])
		}
		b := append(make([]byte, 0, 99), s...)
		got, back, _ := splice.Apply(b, given)
		over(got)
		if !equal(back, undone(s, l)) {
			t.Errorf("what leads back shares memory with the bytes: %v", back)
		}
		for i, c := range back {
			over(c.B)
			back[i] = splice.Change{}
			if !equal(back[i+1:], undone(s, l)[i+1:]) {
				t.Errorf("what leads back shares memory: %v", back)
			}
		}
		got, back, _ = splice.Apply(b, given)
		scribble(back)
		if string(got) != done(s, l) {
			t.Errorf("the bytes share memory with what leads back: %q", got)
		}
		if string(b[:7]) != s+"\x00" || !equal(given, l) {
			t.Errorf("what Apply answers shares memory with %q, %v", b[:7], given)
		}
		for i := range given {
			if len(given[i].B) < 99 && given[i].B[:99][98] != 0 {
				t.Errorf("what Apply answers shares memory with the bytes of %v", l)
			}
		}
	}
	a, b := []byte("abc"), append(make([]byte, 0, 9), "axyc"...)
	c, _ := splice.Diff(a, b)
	over(c.B)
	if string(a) != "abc" || string(b[:5]) != "axyc\x00" {
		t.Errorf("what Diff answers shares memory with %q or %q", a, b)
	}
}

// The rules that hold everywhere, 5: what is handed in is not kept.
func TestArgumentsAreNotKept(t *testing.T) {
	const s = "abcdef"
	l := []splice.Change{change(4, 5, "xx"), change(2, 2, "y"), change(0, 2, "z")}
	given, b := roomy(l), []byte(s)
	sorted, _ := splice.Sorted(given)
	got, back, _ := splice.Apply(b, given)
	scribble(given)
	over(b)
	if !equal(sorted, ordered(l)) || string(got) != done(s, l) || !equal(back, undone(s, l)) {
		t.Errorf("answers are %v, %q, %v now", sorted, got, back)
	}
	x, y := []byte("abc"), []byte("axyc")
	c, _ := splice.Diff(x, y)
	over(x)
	over(y)
	if !same(c, change(1, 2, "xy")) {
		t.Errorf("Diff's answer is %v now", c)
	}
}

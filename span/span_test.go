package span_test

import (
	"bytes"
	"math"
	"math/big"
	"slices"
	"testing"

	"rubric/api"
	"rubric/span"
)

// most is 2^31 - 1.
const most = 1<<31 - 1

// edges are the least and the greatest numbers, and those beside places that may be counted with.
var edges = []int{math.MinInt, math.MinInt + 1, -most - 1, -most, -1, 0, 1, most - 1, most, most + 1, 2 * most, math.MaxInt - 1, math.MaxInt}

// spans are those from and to each of some numbers, also turned round.
func spans(l []int) []span.Span {
	var all []span.Span
	for _, from := range l {
		for _, to := range l {
			all = append(all, span.Span{From: from, To: to})
		}
	}
	return all
}

// small are places from below 0 on.
var small = []int{-2, -1, 0, 1, 2, 3, 4}

// places are those that a span has.
func places(s span.Span) []int {
	var l []int
	for at := s.From; at < s.To; at++ {
		l = append(l, at)
	}
	return l
}

// P6.1
func TestHas(t *testing.T) {
	for _, s := range spans(small) {
		for at := -4; at <= 6; at++ {
			if got := s.Has(at); got != slices.Contains(places(s), at) {
				t.Errorf("%v.Has(%d) = %v", s, at, got)
			}
		}
	}
	for _, c := range []struct {
		from, to, at int
		want         bool
	}{
		{math.MinInt, math.MaxInt, math.MinInt, true},
		{math.MinInt, math.MaxInt, 0, true},
		{math.MinInt, math.MaxInt, math.MaxInt - 1, true},
		{math.MinInt, math.MaxInt, math.MaxInt, false},
		{math.MaxInt, math.MinInt, 0, false},
		{math.MaxInt, math.MinInt, math.MaxInt, false},
		{math.MaxInt, math.MaxInt, math.MaxInt, false},
		{math.MinInt, math.MinInt, math.MinInt, false},
	} {
		if got := (span.Span{From: c.from, To: c.to}).Has(c.at); got != c.want {
			t.Errorf("%v.Has(%d) = %v", span.Span{From: c.from, To: c.to}, c.at, got)
		}
	}
}

// P6.1: how many places a span has, counted by numbers of any size.
func TestLen(t *testing.T) {
	for _, s := range append(spans(small), spans(edges)...) {
		n := new(big.Int).Sub(big.NewInt(int64(s.To)), big.NewInt(int64(s.From)))
		want := most
		switch {
		case n.Sign() <= 0:
			want = 0
		case n.Cmp(big.NewInt(most)) < 0:
			want = int(n.Int64())
		}
		if got := s.Len(); got != want {
			t.Errorf("%v.Len() = %d, want %d", s, got, want)
		}
	}
	for _, s := range spans(small) {
		if s.Len() != len(places(s)) {
			t.Errorf("%v.Len() = %d", s, s.Len())
		}
	}
}

// P6.1: what both have is gone through, place by place.
func TestMeets(t *testing.T) {
	for _, s := range spans(small) {
		for _, o := range spans(small) {
			want := slices.ContainsFunc(places(s), func(at int) bool { return slices.Contains(places(o), at) })
			if got := s.Meets(o); got != want {
				t.Errorf("%v.Meets(%v) = %v", s, o, got)
			}
		}
	}
}

// P6.1: of the least and the greatest numbers, too: spans meet just where one of them has the place from which the other one is.
func TestMeetsAtEdges(t *testing.T) {
	for _, s := range spans(edges) {
		for _, o := range spans(edges) {
			want := s.Has(o.From) && o.Has(o.From) || o.Has(s.From) && s.Has(s.From)
			if got := s.Meets(o); got != want {
				t.Errorf("%v.Meets(%v) = %v", s, o, got)
			}
		}
	}
	for _, c := range []struct {
		s, o span.Span
		want bool
	}{
		{span.Span{From: 0, To: 3}, span.Span{From: 3, To: 5}, false},  // they touch
		{span.Span{From: 0, To: 3}, span.Span{From: 2, To: 5}, true},   // in one place
		{span.Span{From: 0, To: 5}, span.Span{From: 2, To: 2}, false},  // one has nothing
		{span.Span{From: 0, To: 5}, span.Span{From: 4, To: 1}, false},  // one is turned round
		{span.Span{From: 5, To: 0}, span.Span{From: 4, To: 1}, false},  // both are
		{span.Span{From: 2, To: 2}, span.Span{From: 2, To: 2}, false},  // both have nothing
		{span.Span{From: 0, To: 9}, span.Span{From: 3, To: 4}, true},   // one within the other
		{span.Span{From: -3, To: 0}, span.Span{From: -1, To: 9}, true}, // below 0
	} {
		if c.s.Meets(c.o) != c.want || c.o.Meets(c.s) != c.want {
			t.Errorf("%v.Meets(%v) = %v, and back %v", c.s, c.o, c.s.Meets(c.o), c.o.Meets(c.s))
		}
	}
}

// P6.1: the least span that has all of both has the least and the greatest of their places.
func TestJoined(t *testing.T) {
	for _, s := range spans(small) {
		for _, o := range spans(small) {
			all := append(places(s), places(o)...)
			var want span.Span
			if len(all) > 0 {
				want = span.Span{From: slices.Min(all), To: slices.Max(all) + 1}
			}
			if got := s.Joined(o); got != want {
				t.Errorf("%v.Joined(%v) = %v, want %v", s, o, got, want)
			}
		}
	}
}

// P6.1
func TestJoinedAtEdges(t *testing.T) {
	whole := span.Span{From: math.MinInt, To: math.MaxInt}
	first := span.Span{From: math.MinInt, To: math.MinInt + 1}
	last := span.Span{From: math.MaxInt - 1, To: math.MaxInt}
	round := span.Span{From: math.MaxInt, To: math.MinInt}
	for _, c := range []struct{ s, o, want span.Span }{
		{first, last, whole},
		{whole, first, whole},
		{round, last, last},
		{round, round, span.Span{}},
		{round, span.Span{From: 7, To: 7}, span.Span{}},
		{span.Span{From: 7, To: 7}, span.Span{From: 1, To: 2}, span.Span{From: 1, To: 2}},
		{span.Span{From: 0, To: 1}, span.Span{From: 5, To: 6}, span.Span{From: 0, To: 6}},
	} {
		if c.s.Joined(c.o) != c.want || c.o.Joined(c.s) != c.want {
			t.Errorf("%v.Joined(%v) = %v, and back %v, want %v", c.s, c.o, c.s.Joined(c.o), c.o.Joined(c.s), c.want)
		}
	}
}

// starts are where a row's lines begin, as the chapter tells it: its ends of lines are taken one behind the other, the two of D and A first.
func starts(l []rune) []int {
	begin := []int{0}
	for i := 0; i < len(l); {
		switch {
		case l[i] == 0xD && i+1 < len(l) && l[i+1] == 0xA:
			i += 2
		case l[i] == 0xD || l[i] == 0xA:
			i++
		default:
			i++
			continue
		}
		begin = append(begin, i)
	}
	return begin
}

// P6.2: all short rows of ends of lines and others, at all places.
func TestLineOfRows(t *testing.T) {
	signs := []rune{0xA, 0xD, 'a', api.Bad, 0x2028, 0xB}
	var grow func(l []rune)
	grow = func(l []rune) {
		begin := starts(l)
		for _, at := range []int{math.MinInt, -1, 0, 1, 2, 3, 4, 5, 6, 7, most + 1, math.MaxInt} {
			place := max(0, min(at, len(l)))
			line := 0
			for line < len(begin) && begin[line] <= place {
				line++
			}
			column := place - begin[line-1] + 1
			if a, b := span.Line(l, at); a != line || b != column {
				t.Fatalf("Line(%x, %d) = %d, %d, want %d, %d", l, at, a, b, line, column)
			}
		}
		if len(l) == 5 {
			return
		}
		for _, r := range signs {
			grow(append(l[:len(l):len(l)], r))
		}
	}
	grow(nil)
}

// P6.2
func TestLineOfSomeRows(t *testing.T) {
	for _, c := range []struct {
		s                string
		at, line, column int
	}{
		{"", 0, 1, 1},
		{"", 9, 1, 1},
		{"ab", 0, 1, 1},
		{"ab", 1, 1, 2},
		{"ab", 2, 1, 3},
		{"ab", 3, 1, 3},
		{"ab", -1, 1, 1},
		{"a\r\nb", 1, 1, 2},
		{"a\r\nb", 2, 1, 3}, // between the D and its A
		{"a\r\nb", 3, 2, 1},
		{"a\r\nb", 4, 2, 2},
		{"a\rb", 1, 1, 2},
		{"a\rb", 2, 2, 1},
		{"a\nb", 1, 1, 2},
		{"a\nb", 2, 2, 1},
		{"a\n", 2, 2, 1},
		{"a\r", 2, 2, 1},
		{"a\r\n", 2, 1, 3},
		{"a\r\n", 3, 2, 1},
		{"a\r\n", math.MaxInt, 2, 1},
		{"\n\n\n", 2, 3, 1},
		{"\n\n\n", 3, 4, 1},
		{"\r\r\r", 2, 3, 1},
		{"\r\r\r", 3, 4, 1},
		{"\r\n\r\n", 3, 2, 2},
		{"\r\n\r\n", 4, 3, 1},
		{"\n\r", 1, 2, 1},
		{"\n\r", 2, 3, 1},
		{"\r\r\nx", 1, 2, 1},
		{"\r\r\nx", 2, 2, 2},
		{"\r\r\nx", 3, 3, 1},
		{"a\u0085\u2028b", 3, 1, 4},
		{"é😀x", 2, 1, 3},
	} {
		if a, b := span.Line([]rune(c.s), c.at); a != c.line || b != c.column {
			t.Errorf("Line(%q, %d) = %d, %d", c.s, c.at, a, b)
		}
	}
}

// diag is something wrong from a place up to another one.
func diag(from, to, code int) span.Diag {
	return span.Diag{At: span.Span{From: from, To: to}, Code: code}
}

// ahead tells whether one must not stand behind another one: by From, then by To, then by Code.
func ahead(a, b span.Diag) bool {
	if a.At.From != b.At.From {
		return a.At.From < b.At.From
	}
	if a.At.To != b.At.To {
		return a.At.To < b.At.To
	}
	return a.Code <= b.Code
}

// P6.2: all short lists of things that are alike in some numbers, or in all.
func TestSortedOfLists(t *testing.T) {
	var things []span.Diag
	for _, from := range []int{math.MinInt, 1, math.MaxInt} {
		for _, to := range []int{math.MinInt, 2, math.MaxInt} {
			things = append(things, diag(from, to, math.MinInt), diag(from, to, 3), diag(from, to, math.MaxInt))
		}
	}
	var grow func(l []span.Diag)
	grow = func(l []span.Diag) {
		got := span.Sorted(l)
		for i := 1; i < len(got); i++ {
			if !ahead(got[i-1], got[i]) {
				t.Fatalf("Sorted(%v) = %v", l, got)
			}
		}
		count := map[span.Diag]int{}
		for _, d := range l {
			count[d]++
		}
		for _, d := range got {
			count[d]--
		}
		for d, n := range count {
			if n != 0 {
				t.Fatalf("Sorted(%v) has %v too seldom or too often", l, d)
			}
		}
		if len(l) == 3 {
			return
		}
		for _, d := range things {
			grow(append(l[:len(l):len(l)], d))
		}
	}
	grow(nil)
}

// P6.2
func TestSortedOfSome(t *testing.T) {
	l := []span.Diag{diag(5, 6, 1), diag(2, 9, 0), diag(2, 3, 7), diag(2, 3, -7), diag(5, 6, 1), diag(-1, 0, 4), diag(2, 1, 9), diag(2, 3, 7)}
	want := []span.Diag{diag(-1, 0, 4), diag(2, 1, 9), diag(2, 3, -7), diag(2, 3, 7), diag(2, 3, 7), diag(2, 9, 0), diag(5, 6, 1), diag(5, 6, 1)}
	if got := span.Sorted(l); !slices.Equal(got, want) {
		t.Errorf("Sorted is %v", got)
	}
	if len(span.Sorted(nil)) != 0 || len(span.Sorted([]span.Diag{})) != 0 {
		t.Error("Sorted of none has some")
	}
	var many, back []span.Diag
	for i := range 1000 {
		many = append(many, diag(i/100, i/10%10, i%10))
		back = append(back, diag(9-i/100, 9-i/10%10, 9-i%10))
	}
	if !slices.Equal(span.Sorted(back), many) || !slices.Equal(span.Sorted(many), many) {
		t.Error("Sorted of many is not in order")
	}
}

// P6.2 and the rules that hold everywhere, 4 and 5: what is handed in stays as it is, and shares nothing with the answer.
func TestSortedIsNew(t *testing.T) {
	for _, l := range [][]span.Diag{
		{diag(2, 3, 1), diag(1, 2, 1)},
		{diag(1, 2, 1), diag(2, 3, 1)},
		{diag(1, 2, 1)},
	} {
		room := append(make([]span.Diag, 0, 9), l...)
		got := span.Sorted(room)
		if !slices.Equal(room, l) {
			t.Errorf("%v is %v now", l, room)
		}
		for i := range got {
			got[i].Code = 99
		}
		_ = append(got, diag(7, 7, 7))
		if !slices.Equal(room, l) || !slices.Equal(room[:len(l)+1], append(slices.Clone(l), span.Diag{})) {
			t.Errorf("writing into an answer writes into %v", l)
		}
	}
}

// P6.3: all spans of short bytes, and of places beside them.
func TestReplaceOfBytes(t *testing.T) {
	for _, b := range []string{"", "a", "ab", "abcd"} {
		for _, c := range []string{"", "x", "xyz"} {
			for _, s := range spans(append([]int{math.MinInt, math.MaxInt, most, 5}, small...)) {
				got, err := span.Replace([]byte(b), s, []byte(c))
				if s.From < 0 || s.To < s.From || s.To > len(b) {
					if err != api.ErrRange || len(got) != 0 {
						t.Errorf("Replace(%q, %v, %q) = %q, %d", b, s, c, got, err)
					}
					continue
				}
				if want := b[:s.From] + c + b[s.To:]; err != api.OK || string(got) != want {
					t.Errorf("Replace(%q, %v, %q) = %q, %d, want %q", b, s, c, got, err, want)
				}
			}
		}
	}
}

// P6.3
func TestReplaceOfSome(t *testing.T) {
	for _, c := range []struct {
		b        string
		from, to int
		c, want  string
		err      api.Errno
	}{
		{"abc", 1, 2, "xy", "axyc", api.OK},
		{"abc", 0, 3, "", "", api.OK},
		{"abc", 1, 1, "", "abc", api.OK},
		{"abc", 0, 0, "x", "xabc", api.OK},
		{"abc", 3, 3, "x", "abcx", api.OK},
		{"", 0, 0, "", "", api.OK},
		{"", 0, 0, "x", "x", api.OK},
		{"abc", 1, 3, "\xFF", "a\xFF", api.OK},
		{"abc", 2, 1, "x", "", api.ErrRange},
		{"abc", -1, 1, "x", "", api.ErrRange},
		{"abc", 3, 4, "x", "", api.ErrRange},
		{"abc", 4, 4, "", "", api.ErrRange},
		{"", 0, 1, "", "", api.ErrRange},
		{"abc", math.MinInt, math.MaxInt, "x", "", api.ErrRange},
		{"abc", math.MaxInt, math.MinInt, "x", "", api.ErrRange},
		{"abc", math.MaxInt, math.MaxInt, "x", "", api.ErrRange},
	} {
		got, err := span.Replace([]byte(c.b), span.Span{From: c.from, To: c.to}, []byte(c.c))
		if string(got) != c.want || err != c.err {
			t.Errorf("Replace(%q, %d, %d, %q) = %q, %d", c.b, c.from, c.to, c.c, got, err)
		}
	}
	if got, err := span.Replace(nil, span.Span{}, nil); len(got) != 0 || err != api.OK {
		t.Errorf("Replace of nil = %q, %d", got, err)
	}
	// What lies behind the end of bytes, within their capacity, is none of them.
	if got, err := span.Replace(append(make([]byte, 0, 9), "abc"...), span.Span{From: 3, To: 4}, nil); len(got) != 0 || err != api.ErrRange {
		t.Errorf("Replace beyond the end = %q, %d", got, err)
	}
}

// P6.3 and the rules that hold everywhere, 4 and 5: what is handed in stays as it is, and shares nothing with the answer.
func TestReplaceIsNew(t *testing.T) {
	for _, s := range []span.Span{{From: 0, To: 0}, {From: 0, To: 2}, {From: 1, To: 2}, {From: 2, To: 4}, {From: 4, To: 4}, {From: 0, To: 4}} {
		for _, put := range []string{"", "xy", "xyz"} {
			b := append(make([]byte, 0, 99), "abcd"...)
			c := append(make([]byte, 0, 99), put...)
			got, _ := span.Replace(b, s, c)
			for i := range got {
				got[i] = '!'
			}
			_ = append(got, "!!!!"...)
			if !bytes.Equal(b[:8], []byte("abcd\x00\x00\x00\x00")) || !bytes.Equal(c[:8], append([]byte(put), make([]byte, 8-len(put))...)) {
				t.Errorf("an answer of %v and %q shares memory: %q, %q", s, put, b[:8], c[:8])
			}
		}
	}
}

// counted tells whether a number is one from 0 to 2^31 - 1.
func counted(n int) bool { return n >= 0 && n <= most }

// moved is where a place is, as the chapter tells it.
func moved(at int, s span.Span, n int) int {
	if !counted(s.From) || !counted(s.To) || s.From > s.To || !counted(n) || !counted(at) {
		return at
	}
	if at < s.From {
		return at
	}
	if at >= s.To {
		return at + n - (s.To - s.From)
	}
	return s.From
}

// P6.3
func TestShift(t *testing.T) {
	for _, l := range [][]int{{-2, -1, 0, 1, 2, 3, 4, 5}, edges} {
		for _, s := range spans(l) {
			for _, at := range l {
				for _, n := range l {
					if got := span.Shift(at, s, n); got != moved(at, s, n) {
						t.Errorf("Shift(%d, %v, %d) = %d, want %d", at, s, n, got, moved(at, s, n))
					}
				}
			}
		}
	}
}

// P6.3
func TestShiftOfSome(t *testing.T) {
	for _, c := range []struct{ at, from, to, n, want int }{
		{1, 2, 5, 9, 1}, // ahead
		{2, 2, 5, 9, 2}, // at the beginning
		{3, 2, 5, 9, 2}, // within
		{4, 2, 5, 9, 2},
		{5, 2, 5, 9, 11}, // at the end
		{6, 2, 5, 0, 3},  // behind, and nothing put
		{5, 2, 5, 0, 2},
		{2, 2, 2, 3, 5}, // nothing taken away
		{1, 2, 2, 3, 1},
		{2, 2, 2, 0, 2}, // nothing at all
		{0, 0, 0, 1, 1},
		{0, 0, 1, 1, 0},
		{most, 0, 0, most, 2 * most},
		{most, 0, most, 0, 0},
		{most, most, most, most, 2 * most},
		{most - 1, 0, most, 7, 0},
		{-1, 0, 0, 9, -1}, // others
		{math.MinInt, 0, 5, 9, math.MinInt},
		{most + 1, 0, 0, 9, most + 1},
		{math.MaxInt, 0, 5, 9, math.MaxInt},
		{7, 5, 2, 9, 7},
		{3, 5, 2, 9, 3},
		{7, -1, 2, 9, 7},
		{1, -1, 2, 9, 1},
		{7, 2, most + 1, 9, 7},
		{7, 2, 5, -1, 7},
		{3, 2, 5, -1, 3},
		{7, 2, 5, most + 1, 7},
		{3, 2, 5, most + 1, 3},
		{7, math.MinInt, math.MaxInt, 9, 7},
		{7, math.MaxInt, math.MinInt, 9, 7},
		{7, 2, 5, math.MinInt, 7},
	} {
		if got := span.Shift(c.at, span.Span{From: c.from, To: c.to}, c.n); got != c.want {
			t.Errorf("Shift(%d, %d to %d, %d) = %d, want %d", c.at, c.from, c.to, c.n, got, c.want)
		}
	}
}

// P6.4: each byte outside of what is replaced is found where Shift tells; what is put stands from From on, and nothing else is there.
func TestBytesOutsideStay(t *testing.T) {
	b := []byte("abcdef")
	for _, c := range []string{"", "1", "12", "123456789"} {
		for from := 0; from <= len(b); from++ {
			for to := from; to <= len(b); to++ {
				s := span.Span{From: from, To: to}
				got, err := span.Replace(b, s, []byte(c))
				if err != api.OK || len(got) != span.Shift(len(b), s, len(c)) {
					t.Fatalf("Replace(%q, %v, %q) = %q, %d", b, s, c, got, err)
				}
				for at := range b {
					if !s.Has(at) && got[span.Shift(at, s, len(c))] != b[at] {
						t.Errorf("byte %d of %q is not found in %q, by %v", at, b, got, s)
					}
				}
				if string(got[from:from+len(c)]) != c {
					t.Errorf("%q does not stand at %d of %q", c, from, got)
				}
			}
		}
	}
}

// The rules that hold everywhere, 4: a row that is handed in is not changed.
func TestRowsStay(t *testing.T) {
	l := []rune{'\r', '\n', api.Bad, 'a'}
	was := slices.Clone(l)
	span.Line(l, 3)
	if !slices.Equal(l, was) {
		t.Errorf("%x is %x now", was, l)
	}
}

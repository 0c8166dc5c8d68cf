package sniff_test

import (
	"bytes"
	"math"
	"slices"
	"strings"
	"testing"

	"rubric/api"
	"rubric/scan"
	"rubric/sniff"
	"rubric/wide"
)

// kinds are all that there are.
var kinds = []int{sniff.Eight, sniff.Big, sniff.Little}

// others are kinds that there are none of.
var others = []int{math.MinInt, -2, -1, 3, 4, math.MaxInt}

// kindOf is the kind of bytes, and how many bytes their mark has, as the chapter tells them.
func kindOf(b []byte) (int, int) {
	at := func(i int) int {
		if i < len(b) {
			return int(b[i])
		}
		return -1
	}
	switch {
	case at(0) == 0xFE && at(1) == 0xFF:
		return 1, 2
	case at(0) == 0xFF && at(1) == 0xFE:
		return 2, 2
	case at(0) == 0xEF && at(1) == 0xBB && at(2) == 0xBF:
		return 0, 3
	case at(0) == 0x00 && at(1) == 0x3C && at(2) == 0x00 && at(3) == 0x3F:
		return 1, 0
	case at(0) == 0x3C && at(1) == 0x00 && at(2) == 0x3F && at(3) == 0x00:
		return 2, 0
	}
	return 0, 0
}

// pieces are those of bytes of a kind, by layers 1 and 2.
func pieces(kind int, b []byte) []scan.Item {
	switch kind {
	case 0:
		return scan.Items(b)
	case 1:
		return wide.Items(b, true)
	case 2:
		return wide.Items(b, false)
	}
	return nil
}

// encoded is a rune's bytes of a kind, by layers 1 and 2.
func encoded(kind int, r rune) []byte {
	switch kind {
	case 0:
		return scan.Bytes(r)
	case 1:
		return wide.Bytes(true, r)
	case 2:
		return wide.Bytes(false, r)
	}
	return nil
}

// texts calls f with each row of at most n bytes, of those that the beginnings have, and some that are part of a rune, or none.
func texts(n int, f func(b []byte)) {
	signs := []byte{0x00, '<', '?', 'A', 0xBB, 0xBF, 0xD8, 0xDC, 0xEF, 0xFE, 0xFF}
	var grow func(b []byte)
	grow = func(b []byte) {
		f(b)
		if len(b) == n {
			return
		}
		for _, c := range signs {
			grow(append(b[:len(b):len(b)], c))
		}
	}
	grow([]byte{})
}

// longer calls f with some texts of several runes of each kind, with a mark and without one.
func longer(f func(b []byte)) {
	row := []rune{'<', '?', 'x', 0xE9, 0x20AC, 0x1F600, '?', '>', 0xFFFD, 0xFEFF, '\n'}
	for _, kind := range kinds {
		for _, mark := range []rune{api.Bad, 0xFEFF} {
			b := sniff.Encode(kind, append([]rune{mark}, row...)...)
			f(b)
			f(append(slices.Clone(b), 0xD8))
			f(append(slices.Clone(b), 0xD8, 0x00, 0xD8))
			f(slices.Insert(slices.Clone(b), len(b)/2, 0xFF))
		}
	}
}

// row are runes of all lengths, and numbers that have no bytes.
var row = []rune{
	math.MinInt32, api.Bad, 0, 'A', 0x7F, 0x80, 0x7FF, 0x800, 0xD7FF, 0xD800, 0xDC00, 0xDFFF,
	0xE000, 0xFEFF, 0xFFFD, 0xFFFE, 0xFFFF, 0x10000, 0x10FFFF, 0x110000, math.MaxInt32,
}

func TestConstants(t *testing.T) {
	if sniff.Eight != 0 || sniff.Big != 1 || sniff.Little != 2 {
		t.Error(sniff.Eight, sniff.Big, sniff.Little)
	}
}

// P3.1: each of the five beginnings, parts of them, and none.
func TestKindOfSomeBytes(t *testing.T) {
	for _, c := range []struct {
		in        string
		kind, bom int
	}{
		{"", 0, 0},
		{"\xFE\xFF", 1, 2}, {"\xFE\xFF\x00A", 1, 2}, {"\xFE", 0, 0}, {"\xFE\xFE", 0, 0}, {"A\xFE\xFF", 0, 0},
		{"\xFF\xFE", 2, 2}, {"\xFF\xFEA\x00", 2, 2}, {"\xFF\xFE\x00\x00", 2, 2}, {"\xFF", 0, 0}, {"\xFF\xFF\xFE", 0, 0},
		{"\xEF\xBB\xBF", 0, 3}, {"\xEF\xBB\xBF<a/>", 0, 3}, {"\xEF\xBB", 0, 0}, {"\xEF", 0, 0}, {"\xEF\xBB\xBE", 0, 0},
		{"\x00<\x00?", 1, 0}, {"\x00<\x00?\x00x", 1, 0}, {"\x00<\x00", 0, 0}, {"\x00<\x00!", 0, 0}, {"\x00<", 0, 0}, {"\x00<?\x00", 0, 0},
		{"<\x00?\x00", 2, 0}, {"<\x00?\x00x\x00", 2, 0}, {"<\x00?", 0, 0}, {"<\x00!\x00", 0, 0}, {"<\x00", 0, 0}, {"<\x00\x00?", 0, 0},
		{"<?xml", 0, 0}, {"<", 0, 0}, {"\x00\x00\xFE\xFF", 0, 0},
	} {
		if kind, bom := sniff.Kind([]byte(c.in)); kind != c.kind || bom != c.bom {
			t.Errorf("Kind(% x) = %d, %d, want %d, %d", c.in, kind, bom, c.kind, c.bom)
		}
	}
	if kind, bom := sniff.Kind(nil); kind != 0 || bom != 0 {
		t.Errorf("Kind(nil) = %d, %d", kind, bom)
	}
}

// P3.1
func TestDecodeSomeBytes(t *testing.T) {
	for _, c := range []struct {
		in        string
		kind, bom int
		runes     []rune
		off       []int
	}{
		{"", 0, 0, nil, []int{0}},
		{"\xFF\xFEA\x00", 2, 2, []rune{'A'}, []int{2, 4}},
		{"\xFE\xFF\x00A\xD8\x3D\xDE\x00\xDC\x00\x00", 1, 2, []rune{'A', 0x1F600, -1, -1}, []int{2, 4, 8, 10, 11}},
		{"\xEF\xBB\xBFé\xFF", 0, 3, []rune{0xE9, -1}, []int{3, 5, 6}},
		{"\xFE\xFF", 1, 2, nil, []int{2}},
		{"\xFF\xFE", 2, 2, nil, []int{2}},
		{"\xEF\xBB\xBF", 0, 3, nil, []int{3}},
		{"\xEF\xBB\xBF\xEF\xBB\xBF", 0, 3, []rune{0xFEFF}, []int{3, 6}},
		{"\xEF\xBB", 0, 0, []rune{-1, -1}, []int{0, 1, 2}},
		{"\x00<\x00?", 1, 0, []rune{'<', '?'}, []int{0, 2, 4}},
		{"<\x00?\x00!", 2, 0, []rune{'<', '?', -1}, []int{0, 2, 4, 5}},
		{"<\x00?", 0, 0, []rune{'<', 0, '?'}, []int{0, 1, 2, 3}},
		{"a€😀", 0, 0, []rune{'a', 0x20AC, 0x1F600}, []int{0, 1, 4, 8}},
	} {
		x := sniff.Decode([]byte(c.in))
		if x.Kind != c.kind || x.Bom != c.bom || !slices.Equal(x.R, c.runes) || !slices.Equal(x.Off, c.off) {
			t.Errorf("Decode(% x) = %v", c.in, x)
		}
	}
	if x := sniff.Decode(nil); x.Kind != 0 || x.Bom != 0 || len(x.R) != 0 || !slices.Equal(x.Off, []int{0}) {
		t.Errorf("Decode(nil) = %v", x)
	}
}

// P3.1, P3.3: all short rows of bytes, and some longer ones.
func TestDecodeLosesNothing(t *testing.T) {
	try := func(b []byte) {
		was := bytes.Clone(b)
		kind, bom := kindOf(b)
		if k, m := sniff.Kind(b); k != kind || m != bom {
			t.Fatalf("Kind(% x) = %d, %d, want %d, %d", b, k, m, kind, bom)
		}
		x := sniff.Decode(b)
		if x.Kind != kind || x.Bom != bom || len(x.Off) != len(x.R)+1 {
			t.Fatalf("Decode(% x) = %v", b, x)
		}
		l := pieces(kind, b[bom:])
		if len(l) != len(x.R) {
			t.Fatalf("Decode(% x) = %v, want %v", b, x, l)
		}
		at := bom
		for i, p := range l {
			if x.R[i] != p.R || x.Off[i] != at || !bytes.Equal(x.Slice(b, i, i+1), b[at:at+p.N]) {
				t.Fatalf("Decode(% x) = %v, want %v", b, x, l)
			}
			at += p.N
		}
		if x.Off[len(l)] != at || at != len(b) || !bytes.Equal(x.Slice(b, 0, len(l)), b[bom:]) {
			t.Fatalf("Decode(% x) = %v, which ends at %d", b, x, at)
		}
		if !bytes.Equal(b, was) {
			t.Fatalf("% x was changed", was)
		}
	}
	texts(5, try)
	longer(try)
}

// P3.1: the pieces of all of the bytes, whatever they begin with.
func TestPieces(t *testing.T) {
	texts(4, func(b []byte) {
		for _, kind := range append(kinds, others...) {
			if got, want := sniff.Pieces(kind, b), pieces(kind, b); !slices.Equal(got, want) {
				t.Fatalf("Pieces(%d, % x) = %v, want %v", kind, b, got, want)
			}
		}
	})
	for _, kind := range append(kinds, others...) {
		if l := sniff.Pieces(kind, nil); len(l) != 0 {
			t.Errorf("Pieces(%d, nil) = %v", kind, l)
		}
	}
}

// P3.1
func TestEncode(t *testing.T) {
	for _, kind := range append(kinds, others...) {
		var want []byte
		for i, r := range row {
			if b := sniff.Encode(kind, r); !bytes.Equal(b, encoded(kind, r)) {
				t.Errorf("Encode(%d, %x) = % x", kind, r, b)
			}
			want = append(want, encoded(kind, r)...)
			if b := sniff.Encode(kind, row[:i+1]...); !bytes.Equal(b, want) {
				t.Errorf("Encode(%d, %x) = % x, want % x", kind, row[:i+1], b, want)
			}
		}
		if b := sniff.Encode(kind); len(b) != 0 {
			t.Errorf("Encode(%d) = % x", kind, b)
		}
	}
	for _, kind := range others {
		if b := sniff.Encode(kind, 'a', 'b'); len(b) != 0 {
			t.Errorf("Encode(%d) = % x", kind, b)
		}
	}
}

// P3.1: where each rune begins in Encode of all is how many bytes Encode has of those ahead.
func TestOffsets(t *testing.T) {
	for _, kind := range append(kinds, others...) {
		for from := range row {
			l := row[from:]
			want := []int{}
			for i := 0; i <= len(l); i++ {
				want = append(want, len(sniff.Encode(kind, l[:i]...)))
			}
			if got := sniff.Offsets(kind, l); !slices.Equal(got, want) {
				t.Errorf("Offsets(%d, %x) = %v, want %v", kind, l, got, want)
			}
		}
		if got := sniff.Offsets(kind, nil); !slices.Equal(got, []int{0}) {
			t.Errorf("Offsets(%d, nil) = %v", kind, got)
		}
	}
	for _, c := range []struct {
		kind int
		want []int
	}{{0, []int{0, 1, 1, 3, 6, 10}}, {1, []int{0, 2, 2, 4, 6, 10}}, {2, []int{0, 2, 2, 4, 6, 10}}} {
		if got := sniff.Offsets(c.kind, []rune{'a', api.Bad, 0xE9, 0x20AC, 0x1F600}); !slices.Equal(got, c.want) {
			t.Errorf("Offsets of kind %d: %v, want %v", c.kind, got, c.want)
		}
	}
}

// cases calls f with each way to write a name's letters great or small.
func cases(name string, f func(s string)) {
	for bits := range 1 << len(name) {
		b := []byte(name)
		for i := range b {
			if bits>>i&1 == 1 && 'a' <= b[i] && b[i] <= 'z' {
				b[i] -= 'a' - 'A'
			}
		}
		f(string(b))
	}
}

// P3.2
func TestFits(t *testing.T) {
	try := func(name string, fits ...int) {
		for _, kind := range append(kinds, others...) {
			if got, want := sniff.Fits(kind, name), slices.Contains(fits, kind); got != want {
				t.Errorf("Fits(%d, %q) = %v", kind, name, got)
			}
		}
	}
	cases("utf-8", func(s string) { try(s, sniff.Eight) })
	cases("utf-16", func(s string) { try(s, sniff.Big, sniff.Little) })
	for _, s := range []string{
		"", "utf8", "utf16", "utf-", "utf-8 ", " utf-8", "utf-88", "utf-1", "utf-160", "utf-16le", "UTF-16BE", "utf_8", "utf\r8", "utf-32", "us-ascii", "iso-8859-1",
		"utf-\xFF", "utf-8\x00", "utf-8\xFF", "ut\u0192-8", "\uFF55tf-8", "\u00FCtf-8", "utf\u20108",
	} {
		try(s)
	}
}

// first is the number of the first rune that does not begin ahead of a byte, as the chapter tells it.
func first(x sniff.Text, off int) int {
	for i := range x.R {
		if x.Off[i] >= off {
			return i
		}
	}
	return len(x.R)
}

// P3.2: places ahead of, at, between and behind the runes' beginnings.
func TestAt(t *testing.T) {
	try := func(b []byte) {
		x := sniff.Decode(b)
		places := []int{math.MinInt, math.MaxInt}
		for off := -2; off <= len(b)+2; off++ {
			places = append(places, off)
		}
		for _, off := range places {
			if got, want := x.At(off), first(x, off); got != want {
				t.Fatalf("Decode(% x).At(%d) = %d, want %d", b, off, got, want)
			}
		}
	}
	texts(4, try)
	longer(try)
	x := sniff.Decode([]byte("\xEF\xBB\xBFa€b"))
	for off, want := range []int{0, 0, 0, 0, 1, 2, 2, 2, 3, 3} {
		if got := x.At(off); got != want {
			t.Errorf("At(%d) = %d, want %d", off, got, want)
		}
	}
}

// P3.2: of runes without bytes the first one that does not begin ahead, where several begin at one place.
func TestAtWhereSeveralBegin(t *testing.T) {
	l := []rune{api.Bad, 'a', 0xD800, api.Bad, 0xE9, math.MaxInt32}
	x := sniff.Text{R: l, Off: sniff.Offsets(sniff.Eight, l)}
	for off := -1; off <= 5; off++ {
		if got, want := x.At(off), first(x, off); got != want {
			t.Errorf("At(%d) = %d, want %d", off, got, want)
		}
	}
}

// edges are numbers of runes in and outside of a row of n.
func edges(n int) []int {
	l := []int{math.MinInt, -1, n + 1, n + 2, math.MaxInt}
	for i := range n + 1 {
		l = append(l, i)
	}
	return l
}

// P3.2
func TestSliceAndString(t *testing.T) {
	try := func(b []byte) {
		x := sniff.Decode(b)
		n := len(x.R)
		for _, from := range edges(n) {
			for _, to := range edges(n) {
				var want []byte
				text := ""
				if from >= 0 && from <= to && to <= n {
					want = b[x.Off[from]:x.Off[to]]
					text = string(scan.Bytes(x.R[from:to]...))
				}
				if got := x.Slice(b, from, to); !bytes.Equal(got, want) {
					t.Fatalf("Decode(% x).Slice(%d, %d) = % x, want % x", b, from, to, got, want)
				}
				if got := x.String(from, to); got != text {
					t.Fatalf("Decode(% x).String(%d, %d) = %q, want %q", b, from, to, got, text)
				}
			}
		}
	}
	texts(3, try)
	longer(try)
}

// P3.2: by UTF-8, whatever kind the bytes are of, and without what is no rune.
func TestStringOfSomeBytes(t *testing.T) {
	for _, c := range []struct {
		in       string
		from, to int
		want     string
	}{
		{"\xFE\xFF\x20\xAC\xDC\x00\xD8\x3D\xDE\x00", 0, 3, "€😀"},
		{"\xFE\xFF\x20\xAC\xDC\x00\xD8\x3D\xDE\x00", 1, 2, ""},
		{"\xFF\xFE\xAC\x20A\x00\x00", 0, 3, "€A"},
		{"a\xFFé\x80\uFFFD", 0, 5, "aé\uFFFD"},
		{"a\xFFé\x80\uFFFD", 1, 3, "é"},
		{"a\xFFé\x80\uFFFD", 2, 2, ""},
	} {
		if got := sniff.Decode([]byte(c.in)).String(c.from, c.to); got != c.want {
			t.Errorf("Decode(% x).String(%d, %d) = %q, want %q", c.in, c.from, c.to, got, c.want)
		}
	}
}

// P3.2: nothing of fewer bytes than the text's last number; of more, and of others, what stands there.
func TestSliceOfOtherBytes(t *testing.T) {
	b := []byte("\xEF\xBB\xBFa€b")
	x := sniff.Decode(b)
	for n := range len(b) {
		for from := range 4 {
			for to := range 4 {
				if got := x.Slice(b[:n], from, to); len(got) != 0 {
					t.Errorf("Slice of %d bytes from %d to %d: % x", n, from, to, got)
				}
			}
		}
	}
	if got := x.Slice(nil, 0, 1); len(got) != 0 {
		t.Errorf("Slice of nil: % x", got)
	}
	if got := x.Slice(append(bytes.Clone(b), "more"...), 1, 3); string(got) != "€b" {
		t.Errorf("Slice of more bytes: %q", got)
	}
	if got := x.Slice([]byte("12345678"), 0, 2); string(got) != "4567" {
		t.Errorf("Slice of other bytes: %q", got)
	}
}

// P1, P3.2: a text by hand, whose lists do not fit one another, is answered without a panic.
func TestTextsByHand(t *testing.T) {
	lists := [][]int{nil, {}, {0}, {2}, {0, 1}, {0, 1, 2}, {0, 1, 2, 3}, {2, 1, 0}, {3, 0, 1}, {-1, 0, 1}, {0, -5, 2}, {0, 9, 2}, {math.MinInt, math.MaxInt, 0}, {0, 0, math.MaxInt}, {math.MaxInt, math.MinInt, math.MinInt}}
	rows := [][]rune{nil, {}, {'a'}, {'a', 'b'}, {'a', api.Bad, 'c', math.MinInt32}, row}
	for _, off := range lists {
		for _, l := range rows {
			for _, kind := range append(kinds, others...) {
				askAll(t, sniff.Text{Kind: kind, Bom: -kind, R: l, Off: off})
			}
		}
	}
}

// askAll asks a text by hand all that it can be asked.
func askAll(t *testing.T, x sniff.Text) {
	n := len(x.R)
	places := append(edges(n), x.Off...)
	for _, from := range places {
		if at := x.At(from); at < 0 || at > n {
			t.Fatalf("%v.At(%d) = %d", x, from, at)
		}
		for _, to := range places {
			within := from >= 0 && from <= to && to <= n
			text := x.String(from, to)
			if within && text != string(scan.Bytes(x.R[from:to]...)) || !within && text != "" {
				t.Fatalf("%v.String(%d, %d) = %q", x, from, to, text)
			}
			for _, b := range []string{"", "x", "xyz", "0123456789"} {
				if got := x.Slice([]byte(b), from, to); !within && len(got) != 0 || !strings.Contains(b, string(got)) {
					t.Fatalf("%v.Slice(%q, %d, %d) = %q", x, b, from, to, got)
				}
			}
		}
	}
}

// P3.2: the zero text has no runes.
func TestZeroText(t *testing.T) {
	var x sniff.Text
	if x.At(0) != 0 || x.At(-1) != 0 || x.At(5) != 0 || len(x.Slice([]byte("a"), 0, 0)) != 0 || x.String(0, 0) != "" {
		t.Error("the zero text has something")
	}
}

// P3.3: Decode of Encode is the runes that have bytes, if they do not begin as another kind's, or with a mark.
func TestDecodeOfEncode(t *testing.T) {
	for _, kind := range kinds {
		for _, a := range row {
			for _, b := range row {
				for _, c := range row {
					backAndForth(t, kind, a, b, c)
					backAndForth(t, kind, '<', '?', a, b, c)
				}
			}
		}
		mark := []byte(nil)
		if kind != sniff.Eight {
			mark = encoded(kind, 0xFEFF)
		}
		x := sniff.Decode(append(mark, sniff.Encode(kind, row...)...))
		want := slices.DeleteFunc(slices.Clone(row), func(r rune) bool { return len(encoded(kind, r)) == 0 })
		if x.Kind != kind || x.Bom != len(mark) || !slices.Equal(x.R, want) {
			t.Errorf("kind %d: %v, want %x", kind, x, want)
		}
	}
}

// backAndForth encodes runes, and decodes what comes of them, if it begins as what is of that kind, and has no mark.
func backAndForth(t *testing.T, kind int, l ...rune) {
	b := sniff.Encode(kind, l...)
	if k, bom := kindOf(b); k != kind || bom != 0 {
		return
	}
	want := slices.DeleteFunc(slices.Clone(l), func(r rune) bool { return len(encoded(kind, r)) == 0 })
	x := sniff.Decode(b)
	if x.Kind != kind || x.Bom != 0 || !slices.Equal(x.R, want) || !slices.Equal(x.Off, sniff.Offsets(kind, want)) {
		t.Fatalf("Decode of Encode(%d, %x) = %v, want %x", kind, l, x, want)
	}
}

// The rules that hold everywhere, 4 and 5: nothing that is handed in is changed or kept, and no answer is seen by another one.
func TestListsAreTheCallersOwn(t *testing.T) {
	b := []byte("\xEF\xBB\xBFa€\xFF")
	was := bytes.Clone(b)
	x, y := sniff.Decode(b), sniff.Decode(b)
	part := x.Slice(b, 0, 2)
	clear(part)
	_ = append(part, 'z')
	clear(x.R)
	clear(x.Off)
	_ = append(x.R, 'z')
	_ = append(x.Off, 99)
	if !bytes.Equal(b, was) || !slices.Equal(y.R, []rune{'a', 0x20AC, -1}) || !slices.Equal(y.Off, []int{3, 4, 7, 8}) {
		t.Errorf("what is written into an answer is seen: % x %v", b, y)
	}
	clear(b)
	if !slices.Equal(y.R, []rune{'a', 0x20AC, -1}) || y.Slice(was, 1, 2) == nil {
		t.Errorf("what was handed in is kept: %v", y)
	}
}

// The rules that hold everywhere, 4 and 5, of rows of runes.
func TestRowsAreTheCallersOwn(t *testing.T) {
	for _, kind := range append(kinds, others...) {
		l := slices.Clone(row)
		enc, off := sniff.Encode(kind, l...), sniff.Offsets(kind, l)
		wasEnc, wasOff := bytes.Clone(enc), slices.Clone(off)
		clear(enc)
		clear(off)
		if !slices.Equal(l, row) {
			t.Errorf("kind %d: the runes that were handed in are %x now", kind, l)
		}
		if b := sniff.Encode(kind, l...); !bytes.Equal(b, wasEnc) {
			t.Errorf("kind %d: an answer is seen by a later one: % x", kind, b)
		}
		if o := sniff.Offsets(kind, l); !slices.Equal(o, wasOff) {
			t.Errorf("kind %d: an answer is seen by a later one: %v", kind, o)
		}
	}
}

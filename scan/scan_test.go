package scan_test

import (
	"bytes"
	"math"
	"slices"
	"testing"

	"rubric/api"
	"rubric/scan"
)

// encoded is a rune's bytes, bit by bit as the standard lays them; nil, if it has none.
// It is written without the library, so that it can be held against what is built on that.
func encoded(r rune) []byte {
	tail := func(shift int) byte { return 0x80 | byte(r>>shift)&0x3F }
	switch {
	case r < 0 || r > 0x10FFFF || 0xD800 <= r && r <= 0xDFFF:
		return nil
	case r <= 0x7F:
		return []byte{byte(r)}
	case r <= 0x7FF:
		return []byte{0xC0 | byte(r>>6), tail(0)}
	case r <= 0xFFFF:
		return []byte{0xE0 | byte(r>>12), tail(6), tail(0)}
	}
	return []byte{0xF0 | byte(r>>18), tail(12), tail(6), tail(0)}
}

// guess is the number that n bytes would mean, if they were a rune's.
func guess(b []byte, n int) rune {
	mask := []byte{0, 0x7F, 0x1F, 0x0F, 0x07}
	r := rune(b[0] & mask[n])
	for _, c := range b[1:n] {
		r = r<<6 | rune(c&0x3F)
	}
	return r
}

// taken is the piece at the beginning of bytes that are not empty, as the chapter tells it.
func taken(b []byte) (rune, int) {
	for n := 1; n <= 4 && n <= len(b); n++ {
		if r := guess(b, n); bytes.Equal(encoded(r), b[:n]) {
			return r, n
		}
	}
	return -1, 1
}

// pieces are all of them, as the chapter tells them.
func pieces(b []byte) []scan.Item {
	var l []scan.Item
	for off := 0; off < len(b); {
		r, n := taken(b[off:])
		l = append(l, scan.Item{R: r, Off: off, N: n})
		off += n
	}
	return l
}

// texts calls f with each row of at most n bytes that begin, go on, or end a rune of some length, or are none.
func texts(n int, f func(b []byte)) {
	signs := []byte{0x00, 'A', 0x7F, 0x80, 0x8F, 0x90, 0x9F, 0xA0, 0xBD, 0xBF, 0xC0, 0xC1, 0xC2, 0xDF, 0xE0, 0xE1, 0xEC, 0xED, 0xEE, 0xEF, 0xF0, 0xF1, 0xF3, 0xF4, 0xF5, 0xF7, 0xF8, 0xFE, 0xFF}
	var grow func(b []byte)
	grow = func(b []byte) {
		f(b)
		if len(b) == n {
			return
		}
		for _, c := range signs {
			grow(append(b[:len(b):len(b)], c))
		}
	}
	grow([]byte{})
}

// edges are the least and the greatest runes of each length, and numbers that have no bytes.
var edges = []struct {
	r    rune
	wide int
}{
	{math.MinInt32, 0}, {-2, 0}, {api.Bad, 0},
	{0, 1}, {0x7F, 1}, {0x80, 2}, {0x7FF, 2}, {0x800, 3},
	{0xD7FF, 3}, {0xD800, 0}, {0xDBFF, 0}, {0xDC00, 0}, {0xDFFF, 0}, {0xE000, 3},
	{0xFFFD, 3}, {0xFFFE, 3}, {0xFFFF, 3}, {0x10000, 4}, {0x10FFFF, 4},
	{0x110000, 0}, {math.MaxInt32, 0},
}

// P1.1
func TestItemsOfSomeTexts(t *testing.T) {
	for _, c := range []struct {
		in   string
		want []scan.Item
	}{
		{"", nil},
		{"\xC3\xA9\xFF", []scan.Item{{R: 0xE9, Off: 0, N: 2}, {R: -1, Off: 2, N: 1}}},
		{"\x00\x7F", []scan.Item{{R: 0, Off: 0, N: 1}, {R: 0x7F, Off: 1, N: 1}}},
		{"\u0080\u07FF\u0800\uFFFF\U00010000\U0010FFFF", []scan.Item{
			{R: 0x80, Off: 0, N: 2}, {R: 0x7FF, Off: 2, N: 2},
			{R: 0x800, Off: 4, N: 3}, {R: 0xFFFF, Off: 7, N: 3},
			{R: 0x10000, Off: 10, N: 4}, {R: 0x10FFFF, Off: 14, N: 4}}},
		{"\uFFFD\xEF\xBFa", []scan.Item{{R: 0xFFFD, Off: 0, N: 3}, {R: -1, Off: 3, N: 1}, {R: -1, Off: 4, N: 1}, {R: 'a', Off: 5, N: 1}}},
		{"\xEF\xBF\xBC\xBD", []scan.Item{{R: 0xFFFC, Off: 0, N: 3}, {R: -1, Off: 3, N: 1}}},
		{"\xED\xA0\x80", []scan.Item{{R: -1, Off: 0, N: 1}, {R: -1, Off: 1, N: 1}, {R: -1, Off: 2, N: 1}}},
		{"\xED\x9F\xBF\xEE\x80\x80", []scan.Item{{R: 0xD7FF, Off: 0, N: 3}, {R: 0xE000, Off: 3, N: 3}}},
		{"\xC1\xBF", []scan.Item{{R: -1, Off: 0, N: 1}, {R: -1, Off: 1, N: 1}}},
		{"\xF0\x9F\x98a", []scan.Item{{R: -1, Off: 0, N: 1}, {R: -1, Off: 1, N: 1}, {R: -1, Off: 2, N: 1}, {R: 'a', Off: 3, N: 1}}},
	} {
		if got := scan.Items([]byte(c.in)); !slices.Equal(got, c.want) {
			t.Errorf("Items(% x) = %v, want %v", c.in, got, c.want)
		}
	}
	if got := scan.Items(nil); len(got) != 0 {
		t.Errorf("Items(nil) = %v", got)
	}
}

// P1.1
func TestFirstOfSomeTexts(t *testing.T) {
	for _, c := range []struct {
		in   string
		r    rune
		wide int
	}{
		{"", 0, 0}, {"\x00", 0, 1}, {"a\xFF", 'a', 1}, {"éa", 0xE9, 2}, {"€uro", 0x20AC, 3}, {"😀😀", 0x1F600, 4},
		{"\uFFFD", 0xFFFD, 3}, {"\uFFFDx", 0xFFFD, 3}, {"\xEF\xBF", -1, 1}, {"\xFF\xEF\xBF\xBD", -1, 1}, {"\x80", -1, 1}, {"\xF4\x90\x80\x80", -1, 1},
	} {
		if r, n := scan.First([]byte(c.in)); r != c.r || n != c.wide {
			t.Errorf("First(% x) = %x, %d, want %x, %d", c.in, r, n, c.r, c.wide)
		}
	}
	if r, n := scan.First(nil); r != 0 || n != 0 {
		t.Errorf("First(nil) = %x, %d", r, n)
	}
}

// P1.1
func TestValidOfSomeTexts(t *testing.T) {
	for _, s := range []string{"", "a", "aé€😀", "\x00", "\uFFFD", "a\uFFFDb", "\uFFFE\uFFFF"} {
		if !scan.Valid([]byte(s)) {
			t.Errorf("% x is not valid", s)
		}
	}
	for _, s := range []string{"\xFF", "a\xFF", "\xC0\x80", "\uFFFD\x80", "\xED\xBF\xBF", "\xE2\x82", "\xF4\x90\x80\x80", "\xF8\x88\x80\x80\x80"} {
		if scan.Valid([]byte(s)) {
			t.Errorf("% x is valid", s)
		}
	}
	if !scan.Valid(nil) {
		t.Error("nil is not valid")
	}
}

// P1.1, P1.3: all short rows of bytes.
func TestRowsOfBytes(t *testing.T) {
	texts(4, func(b []byte) {
		was := bytes.Clone(b)
		want := pieces(b)
		if got := scan.Items(b); !slices.Equal(got, want) {
			t.Fatalf("Items(% x) = %v, want %v", b, got, want)
		}
		bad := slices.ContainsFunc(want, func(i scan.Item) bool { return i.R == api.Bad })
		if scan.Valid(b) == bad {
			t.Fatalf("Valid(% x) = %v", b, !bad)
		}
		r, n := scan.First(b)
		if len(b) == 0 && (r != 0 || n != 0) || len(b) > 0 && (r != want[0].R || n != want[0].N) {
			t.Fatalf("First(% x) = %x, %d", b, r, n)
		}
		if !bytes.Equal(b, was) {
			t.Fatalf("% x was changed", was)
		}
	})
}

// P1.2
func TestWidthOfEdges(t *testing.T) {
	for _, e := range edges {
		if n := scan.Width(e.r); n != e.wide {
			t.Errorf("Width(%x) = %d, want %d", e.r, n, e.wide)
		}
		if b := scan.Bytes(e.r); len(b) != e.wide {
			t.Errorf("Bytes(%x) = % x, want %d bytes", e.r, b, e.wide)
		}
	}
}

// P1.2
func TestBytesOfEachRune(t *testing.T) {
	for r := rune(-0x100); r <= 0x110100; r++ {
		want := encoded(r)
		if n := scan.Width(r); n != len(want) {
			t.Fatalf("Width(%x) = %d, want %d", r, n, len(want))
		}
		if b := scan.Bytes(r); !bytes.Equal(b, want) {
			t.Fatalf("Bytes(%x) = % x, want % x", r, b, want)
		}
	}
}

// P1.2
func TestBytesOfRows(t *testing.T) {
	for _, c := range []struct {
		in   []rune
		want string
	}{
		{nil, ""}, {[]rune{}, ""}, {[]rune{0}, "\x00"},
		{[]rune{'a', api.Bad, 0xE9, 0xD83D, 0xDE00, 0x20AC, 0x110000, 0x1F600, math.MinInt32, 0xFFFD}, "aé€😀\uFFFD"},
		{[]rune{api.Bad, 0xDFFF, math.MaxInt32}, ""},
	} {
		if b := scan.Bytes(c.in...); string(b) != c.want {
			t.Errorf("Bytes(%x) = % x, want % x", c.in, b, c.want)
		}
	}
}

// P1.3
func TestPiecesLoseNothing(t *testing.T) {
	texts(3, func(b []byte) {
		at := 0
		for _, i := range scan.Items(b) {
			if i.Off != at || i.N < 1 || i.Off+i.N > len(b) {
				t.Fatalf("% x: %v does not begin at %d, or has nothing, or too much", b, i, at)
			}
			if i.R == api.Bad && i.N != 1 || i.R != api.Bad && !bytes.Equal(b[i.Off:i.Off+i.N], encoded(i.R)) {
				t.Fatalf("% x: %v is not what stands there", b, i)
			}
			at += i.N
		}
		if at != len(b) {
			t.Fatalf("% x: the pieces end at %d", b, at)
		}
	})
}

// runesOf are those of items.
func runesOf(l []scan.Item) []rune {
	var out []rune
	for _, i := range l {
		out = append(out, i.R)
	}
	return out
}

// P1.4: from runes to bytes and back.
func TestItemsOfBytes(t *testing.T) {
	for _, a := range edges {
		for _, b := range edges {
			for _, c := range edges {
				in := []rune{a.r, b.r, c.r}
				want := slices.DeleteFunc(slices.Clone(in), func(r rune) bool { return encoded(r) == nil })
				if got := runesOf(scan.Items(scan.Bytes(in...))); !slices.Equal(got, want) {
					t.Fatalf("Items of Bytes(%x) = %x, want %x", in, got, want)
				}
			}
		}
	}
}

// P1.4: from bytes to runes and back.
func TestBytesOfItems(t *testing.T) {
	texts(4, func(b []byte) {
		back := scan.Bytes(runesOf(scan.Items(b))...)
		if scan.Valid(b) != bytes.Equal(back, b) {
			t.Fatalf("Bytes of Items(% x) = % x, and Valid is %v", b, back, scan.Valid(b))
		}
	})
}

// The rules that hold everywhere, 4 and 5: nothing that is handed in is changed or kept, and no answer is seen by another one.
func TestListsAreTheCallersOwn(t *testing.T) {
	in := []byte("a\uFFFD\xFF")
	one := scan.Items(in)
	want := slices.Clone(one)
	in[0] = 'z'
	if !slices.Equal(one, want) {
		t.Errorf("what was handed in is kept: %v", one)
	}
	in[0] = 'a'
	one[0] = scan.Item{R: 'z'}
	_ = append(one, scan.Item{R: 'y'})
	if two := scan.Items(in); !slices.Equal(two, want) {
		t.Errorf("an answer is seen by a later one: %v", two)
	}

	runes := []rune{'a', api.Bad, 0xD800, 0xE9}
	was := slices.Clone(runes)
	out := scan.Bytes(runes...)
	if !slices.Equal(runes, was) {
		t.Errorf("the runes that were handed in are %x now", runes)
	}
	out[0] = 'z'
	_ = append(out, 'y')
	if b := scan.Bytes(runes...); string(b) != "aé" {
		t.Errorf("an answer is seen by a later one: % x", b)
	}
}

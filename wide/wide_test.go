package wide_test

import (
	"bytes"
	"math"
	"slices"
	"testing"

	"rubric/api"
	"rubric/scan"
	"rubric/wide"
)

// units are a rune's, as the chapter tells them; nil, if it has none.
func units(r rune) []uint16 {
	switch {
	case r < 0 || r > 0x10FFFF || 0xD800 <= r && r <= 0xDFFF:
		return nil
	case r <= 0xFFFF:
		return []uint16{uint16(r)}
	}
	return []uint16{uint16(0xD800 + (r-0x10000)/0x400), uint16(0xDC00 + (r-0x10000)%0x400)}
}

// encoded is a rune's bytes, as the chapter tells them; nil, if it has none.
func encoded(r rune, big bool) []byte {
	var b []byte
	for _, u := range units(r) {
		if big {
			b = append(b, byte(u/0x100), byte(u%0x100))
		} else {
			b = append(b, byte(u%0x100), byte(u/0x100))
		}
	}
	return b
}

// taken is the piece at the beginning of bytes that are not empty, as the chapter tells it.
func taken(b []byte, big bool) (rune, int) {
	if len(b) == 1 {
		return -1, 1
	}
	at := func(i int) rune {
		if big {
			return rune(b[i])*0x100 + rune(b[i+1])
		}
		return rune(b[i]) + rune(b[i+1])*0x100
	}
	u := at(0)
	if u < 0xD800 || u > 0xDFFF {
		return u, 2
	}
	if u <= 0xDBFF && len(b) >= 4 && at(2) >= 0xDC00 && at(2) <= 0xDFFF {
		return 0x10000 + (u-0xD800)*0x400 + at(2) - 0xDC00, 4
	}
	return -1, 2
}

// pieces are all of them, as the chapter tells them.
func pieces(b []byte, big bool) []scan.Item {
	var l []scan.Item
	for off := 0; off < len(b); {
		r, n := taken(b[off:], big)
		l = append(l, scan.Item{R: r, Off: off, N: n})
		off += n
	}
	return l
}

// texts calls f, by both orders of bytes, with each row of at most n bytes that stand at an edge of what units are.
func texts(n int, f func(b []byte, big bool)) {
	signs := []byte{0x00, 'A', 0xD7, 0xD8, 0xDB, 0xDC, 0xDF, 0xE0, 0xFF}
	var grow func(b []byte)
	grow = func(b []byte) {
		f(b, true)
		f(b, false)
		if len(b) == n {
			return
		}
		for _, c := range signs {
			grow(append(b[:len(b):len(b)], c))
		}
	}
	grow([]byte{})
}

// edges are the least and the greatest runes of each length, and numbers that have no bytes.
var edges = []struct {
	r    rune
	wide int
}{
	{math.MinInt32, 0}, {-2, 0}, {api.Bad, 0},
	{0, 2}, {0x7F, 2}, {0xFF, 2}, {0x100, 2},
	{0xD7FF, 2}, {0xD800, 0}, {0xDBFF, 0}, {0xDC00, 0}, {0xDFFF, 0}, {0xE000, 2},
	{0xFFFD, 2}, {0xFFFE, 2}, {0xFFFF, 2}, {0x10000, 4}, {0x103FF, 4}, {0x10400, 4}, {0x10FC00, 4}, {0x10FFFF, 4},
	{0x110000, 0}, {math.MaxInt32, 0},
}

// P2.1
func TestItemsOfSomeTexts(t *testing.T) {
	for _, c := range []struct {
		in   string
		want []scan.Item
	}{
		{"", nil},
		{"A", []scan.Item{{R: -1, Off: 0, N: 1}}},
		{"\x00A\xD8\x00\x00", []scan.Item{{R: 'A', Off: 0, N: 2}, {R: -1, Off: 2, N: 2}, {R: -1, Off: 4, N: 1}}},
		{"\x00\x00\xD7\xFF\xE0\x00\xFF\xFF", []scan.Item{{R: 0, Off: 0, N: 2}, {R: 0xD7FF, Off: 2, N: 2}, {R: 0xE000, Off: 4, N: 2}, {R: 0xFFFF, Off: 6, N: 2}}},
		{"\xD8\x00\xDC\x00\xDB\xFF\xDF\xFF", []scan.Item{{R: 0x10000, Off: 0, N: 4}, {R: 0x10FFFF, Off: 4, N: 4}}},
		{"\xD8\x3D\xDE\x00", []scan.Item{{R: 0x1F600, Off: 0, N: 4}}},
		{"\xD8\x00", []scan.Item{{R: -1, Off: 0, N: 2}}},
		{"\xD8\x00\xDC", []scan.Item{{R: -1, Off: 0, N: 2}, {R: -1, Off: 2, N: 1}}},
		{"\xDB\xFF\xE0\x00", []scan.Item{{R: -1, Off: 0, N: 2}, {R: 0xE000, Off: 2, N: 2}}},
		{"\xD8\x00\xD8\x01\xDC\x00", []scan.Item{{R: -1, Off: 0, N: 2}, {R: 0x10400, Off: 2, N: 4}}},
		{"\xDC\x00\xD8\x00\xDC\x00", []scan.Item{{R: -1, Off: 0, N: 2}, {R: 0x10000, Off: 2, N: 4}}},
		{"\xDC\x00\xDF\xFF\x00B", []scan.Item{{R: -1, Off: 0, N: 2}, {R: -1, Off: 2, N: 2}, {R: 'B', Off: 4, N: 2}}},
		{"\xFE\xFF\xFF\xFD", []scan.Item{{R: 0xFEFF, Off: 0, N: 2}, {R: 0xFFFD, Off: 2, N: 2}}},
	} {
		if got := wide.Items([]byte(c.in), true); !slices.Equal(got, c.want) {
			t.Errorf("Items(% x, big) = %v, want %v", c.in, got, c.want)
		}
		if got := wide.Items(swapped(c.in), false); !slices.Equal(got, c.want) {
			t.Errorf("Items(% x) = %v, want %v", swapped(c.in), got, c.want)
		}
	}
	if len(wide.Items(nil, true)) != 0 || len(wide.Items(nil, false)) != 0 {
		t.Error("Items(nil) has some")
	}
}

// swapped is a text with the bytes of each unit the other way round.
func swapped(s string) []byte {
	b := []byte(s)
	for i := 0; i+1 < len(b); i += 2 {
		b[i], b[i+1] = b[i+1], b[i]
	}
	return b
}

// P2.1: the order of bytes is what is asked, whatever they look like.
func TestBothOrders(t *testing.T) {
	b := []byte{0xD8, 0x00, 0xDC, 0x00}
	if got, want := wide.Items(b, true), []scan.Item{{R: 0x10000, Off: 0, N: 4}}; !slices.Equal(got, want) {
		t.Errorf("big: %v, want %v", got, want)
	}
	if got, want := wide.Items(b, false), []scan.Item{{R: 0x00D8, Off: 0, N: 2}, {R: 0x00DC, Off: 2, N: 2}}; !slices.Equal(got, want) {
		t.Errorf("little: %v, want %v", got, want)
	}
}

// P2.1, P2.3: all short rows of bytes.
func TestRowsOfBytes(t *testing.T) {
	texts(6, func(b []byte, big bool) {
		was := bytes.Clone(b)
		got, want := wide.Items(b, big), pieces(b, big)
		if !slices.Equal(got, want) {
			t.Fatalf("Items(% x, %v) = %v, want %v", b, big, got, want)
		}
		if !bytes.Equal(b, was) {
			t.Fatalf("% x was changed", was)
		}
	})
}

// P2.1: each unit by itself, and each behind and ahead of others.
func TestEachUnit(t *testing.T) {
	for u := range 0x10000 {
		x, y := byte(u/0x100), byte(u%0x100)
		for _, b := range [][]byte{{x, y}, {x, y, 0xDC, 0x00}, {x, y, 0xDB, 0xFF}, {0xD8, 0x00, x, y}, {x, y, 0xDF}} {
			if got, want := wide.Items(b, true), pieces(b, true); !slices.Equal(got, want) {
				t.Fatalf("Items(% x, big) = %v, want %v", b, got, want)
			}
		}
	}
}

// P2.2
func TestWidthOfEdges(t *testing.T) {
	for _, e := range edges {
		if n := wide.Width(e.r); n != e.wide {
			t.Errorf("Width(%x) = %d, want %d", e.r, n, e.wide)
		}
		for _, big := range []bool{true, false} {
			if b := wide.Bytes(big, e.r); len(b) != e.wide {
				t.Errorf("Bytes(%v, %x) = % x, want %d bytes", big, e.r, b, e.wide)
			}
		}
	}
}

// P2.2
func TestBytesOfEachRune(t *testing.T) {
	for r := rune(-0x100); r <= 0x110100; r++ {
		for _, big := range []bool{true, false} {
			want := encoded(r, big)
			if n := wide.Width(r); n != len(want) {
				t.Fatalf("Width(%x) = %d, want %d", r, n, len(want))
			}
			if b := wide.Bytes(big, r); !bytes.Equal(b, want) {
				t.Fatalf("Bytes(%v, %x) = % x, want % x", big, r, b, want)
			}
		}
	}
}

// P2.2
func TestBytesOfRows(t *testing.T) {
	for _, c := range []struct {
		in   []rune
		want string
	}{
		{nil, ""}, {[]rune{}, ""}, {[]rune{0}, "\x00\x00"},
		{[]rune{'A', api.Bad, 0x20AC, 0xD83D, 0xDE00, 0x110000, 0x1F600, math.MinInt32, 0xFFFD}, "\x00A\x20\xAC\xD8\x3D\xDE\x00\xFF\xFD"},
		{[]rune{api.Bad, 0xDFFF, math.MaxInt32}, ""},
	} {
		if b := wide.Bytes(true, c.in...); string(b) != c.want {
			t.Errorf("Bytes(big, %x) = % x, want % x", c.in, b, c.want)
		}
		if b := wide.Bytes(false, c.in...); !bytes.Equal(b, swapped(c.want)) {
			t.Errorf("Bytes(%x) = % x, want % x", c.in, b, swapped(c.want))
		}
	}
}

// P2.3: the pieces' bytes, one behind the other, are the bytes.
func TestPiecesLoseNothing(t *testing.T) {
	texts(5, func(b []byte, big bool) {
		at := 0
		for _, i := range wide.Items(b, big) {
			if i.Off != at || i.N < 1 || i.Off+i.N > len(b) {
				t.Fatalf("% x: %v does not begin at %d, or has nothing, or too much", b, i, at)
			}
			if i.R == api.Bad && i.N > 2 || i.R != api.Bad && !bytes.Equal(b[i.Off:i.Off+i.N], encoded(i.R, big)) {
				t.Fatalf("% x: %v is not what stands there", b, i)
			}
			at += i.N
		}
		if at != len(b) {
			t.Fatalf("% x: the pieces end at %d", b, at)
		}
	})
}

// P2.3: Items of Bytes are the runes that have bytes.
func TestItemsOfBytes(t *testing.T) {
	for _, a := range edges {
		for _, b := range edges {
			for _, c := range edges {
				for _, big := range []bool{true, false} {
					in := []rune{a.r, b.r, c.r}
					want := slices.DeleteFunc(slices.Clone(in), func(r rune) bool { return units(r) == nil })
					var got []rune
					for _, i := range wide.Items(wide.Bytes(big, in...), big) {
						got = append(got, i.R)
					}
					if !slices.Equal(got, want) {
						t.Fatalf("Items of Bytes(%v, %x) = %x, want %x", big, in, got, want)
					}
				}
			}
		}
	}
}

// The rules that hold everywhere, 4 and 5: nothing that is handed in is changed or kept, and no answer is seen by another one.
func TestListsAreTheCallersOwn(t *testing.T) {
	in := []byte("\x00A\xD8\x00\xDC\x00\xFF")
	one := wide.Items(in, true)
	want := slices.Clone(one)
	in[1] = 'Z'
	if !slices.Equal(one, want) {
		t.Errorf("what was handed in is kept: %v", one)
	}
	in[1] = 'A'
	one[0] = scan.Item{R: 'Z'}
	_ = append(one, scan.Item{R: 'Y'})
	if two := wide.Items(in, true); !slices.Equal(two, want) {
		t.Errorf("an answer is seen by a later one: %v", two)
	}

	runes := []rune{'A', api.Bad, 0xD800, 0x1F600}
	was := slices.Clone(runes)
	out := wide.Bytes(true, runes...)
	if !slices.Equal(runes, was) {
		t.Errorf("the runes that were handed in are %x now", runes)
	}
	out[0] = 'Z'
	_ = append(out, 'Y')
	if b := wide.Bytes(true, runes...); string(b) != "\x00A\xD8\x3D\xDE\x00" {
		t.Errorf("an answer is seen by a later one: % x", b)
	}
}

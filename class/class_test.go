package class_test

import (
	"math"
	"slices"
	"strconv"
	"strings"
	"testing"

	"rubric/api"
	"rubric/class"
)

// The chapter's words, as it has them, but for signs, which stand by their numbers here.
const (
	chars      = "9, A, D, 20 to D7FF, E000 to FFFD, 10000 to 10FFFF"
	spaces     = "9, A, D, 20"
	nameStarts = "3A, 41 to 5A, 5F, 61 to 7A, C0 to D6, D8 to F6, F8 to 2FF, 370 to 37D, 37F to 1FFF, 200C, 200D, 2070 to 218F, 2C00 to 2FEF, 3001 to D7FF, F900 to FDCF, FDF0 to FFFD, 10000 to EFFFF"
	nameChars  = nameStarts + ", 2D, 2E, 30 to 39, B7, 300 to 36F, 203F, 2040"
	pubids     = "20, D, A, 61 to 7A, 41 to 5A, 30 to 39, 2D, 27, 28, 29, 2B, 2C, 2E, 2F, 3A, 3D, 3F, 3B, 21, 2A, 23, 40, 24, 5F, 25"
)

// classes are the functions that ask for words of the chapter.
var classes = []struct {
	name  string
	is    func(r rune) bool
	words string
}{
	{"Char", class.Char, chars},
	{"Space", class.Space, spaces},
	{"NameStart", class.NameStart, nameStarts},
	{"NameChar", class.NameChar, nameChars},
	{"Pubid", class.Pubid, pubids},
}

// number is that of a rune, as the words write it.
func number(t *testing.T, s string) rune {
	n, err := strconv.ParseInt(s, 16, 32)
	if err != nil {
		t.Fatal(err)
	}
	return rune(n)
}

// set is what runes the words name, and where a range of theirs begins or ends.
func set(t *testing.T, words string) (map[rune]bool, []rune) {
	all := map[rune]bool{}
	var ends []rune
	for _, w := range strings.Split(words, ", ") {
		from, to, two := strings.Cut(w, " to ")
		if !two {
			to = from
		}
		first, last := number(t, from), number(t, to)
		ends = append(ends, first, last)
		for r := first; r <= last; r++ {
			all[r] = true
		}
	}
	return all, ends
}

// every calls f with all numbers that a rune may have, those beside them, and the least and the greatest ones.
func every(f func(r rune)) {
	for r := rune(-0x1000); r <= 0x111000; r++ {
		f(r)
	}
	for _, r := range []rune{math.MinInt32, math.MinInt32 + 1, math.MinInt32 + 'a', -0x110000, 0x200000 + 'a', 0x1000000 + ' ', math.MaxInt32 - 1, math.MaxInt32} {
		f(r)
	}
}

// P4.1: each rune, and Bad, and numbers that are none.
func TestClassesOfEachRune(t *testing.T) {
	for _, c := range classes {
		want, _ := set(t, c.words)
		every(func(r rune) {
			if got := c.is(r); got != want[r] {
				t.Errorf("%s(%x) = %v", c.name, r, got)
			}
		})
		if c.is(api.Bad) {
			t.Errorf("Bad is %s", c.name)
		}
	}
}

// P4.1: the first and the last rune of each range are in it; those beside them are so only by another range.
func TestClassesAtEdges(t *testing.T) {
	for _, c := range classes {
		want, ends := set(t, c.words)
		for _, r := range ends {
			if !c.is(r) {
				t.Errorf("%x is no %s", r, c.name)
			}
			for _, beside := range []rune{r - 1, r + 1} {
				if got := c.is(beside); got != want[beside] {
					t.Errorf("%s(%x) = %v, beside %x", c.name, beside, got, r)
				}
			}
		}
	}
}

// P4.1: what the words come to, by signs.
func TestClassesOfSomeSigns(t *testing.T) {
	for _, c := range []struct {
		name, are, none string
		is              func(r rune) bool
	}{
		{"Char", "\t\n\r aé€😀<&\uFFFD\u007F\u0080", "\x00\x01\x0B\x0C\x1F\uFFFE\uFFFF", class.Char},
		{"Space", "\t\n\r ", "a\x0B\x0C\u0085\u00A0\u2000\u2028\u3000\uFEFF", class.Space},
		{"NameStart", ":_azAZéß字", "-.09·\u0300\u203F×÷ <\u037E\u2000", class.NameStart},
		{"NameChar", ":_azAZ-.09·\u0300\u203F\u2040", "×÷ \t/>='\"&;\u037E\uFFFE", class.NameChar},
		{"Pubid", " \r\nazAZ09-'()+,./:=?;!*#@$_%", "\t\"&<>[]^`{|}~\\é", class.Pubid},
	} {
		for _, r := range c.are {
			if !c.is(r) {
				t.Errorf("%q is no %s", r, c.name)
			}
		}
		for _, r := range c.none {
			if c.is(r) {
				t.Errorf("%q is %s", r, c.name)
			}
		}
	}
}

// P4.1: a digit's worth is where it stands among the digits.
func TestDigits(t *testing.T) {
	for _, c := range []struct {
		name string
		of   func(r rune) (int, bool)
		want map[rune]int
	}{
		{"Digit", class.Digit, worths("0123456789")},
		{"Hex", class.Hex, worths("0123456789abcdef", "0123456789ABCDEF")},
	} {
		every(func(r rune) {
			n, ok := c.of(r)
			if want, there := c.want[r]; n != want || ok != there {
				t.Errorf("%s(%x) = %d, %v, want %d, %v", c.name, r, n, ok, want, there)
			}
		})
	}
}

// worths are those of rows of digits.
func worths(rows ...string) map[rune]int {
	m := map[rune]int{}
	for _, s := range rows {
		for i, r := range s {
			m[r] = i
		}
	}
	return m
}

// rows calls f with each row of at most n runes, of some that are blanks, and some that are none.
func rows(n int, f func(l []rune)) {
	signs := []rune{' ', '\t', 'a', 0xE9, api.Bad, math.MinInt32, math.MaxInt32}
	var grow func(l []rune)
	grow = func(l []rune) {
		f(l)
		if len(l) == n {
			return
		}
		for _, r := range signs {
			grow(append(l[:len(l):len(l)], r))
		}
	}
	grow([]rune{})
}

// asked are functions that may be handed in.
var asked = []func(r rune) bool{
	class.Space,
	class.Char,
	func(r rune) bool { return true },
	func(r rune) bool { return false },
	func(r rune) bool { return r < 0 },
}

// P4.2
func TestAllOfRows(t *testing.T) {
	rows(4, func(l []rune) {
		for i, is := range asked {
			want := true
			for _, r := range l {
				want = want && is(r)
			}
			if got := class.All(l, is); got != want {
				t.Fatalf("All(%x) = %v by function %d", l, got, i)
			}
		}
	})
	if !class.All(nil, class.Space) || !class.All([]rune{}, asked[3]) {
		t.Error("All of none is false")
	}
	for _, l := range [][]rune{nil, {}, {' '}} {
		if class.All(l, nil) {
			t.Errorf("All(%x) is true by nil", l)
		}
	}
}

// P4.2
func TestRunOfRows(t *testing.T) {
	rows(4, func(l []rune) {
		for _, from := range []int{math.MinInt, -1, 0, 1, 2, 3, 4, 5, 6, math.MaxInt} {
			for i, is := range asked {
				want := 0
				for from >= 0 && from < len(l)-want && is(l[from+want]) {
					want++
				}
				if got := class.Run(l, from, is); got != want {
					t.Fatalf("Run(%x, %d) = %d by function %d, want %d", l, from, got, i, want)
				}
			}
			if got := class.Run(l, from, nil); got != 0 {
				t.Fatalf("Run(%x, %d) = %d by nil", l, from, got)
			}
		}
	})
	for _, from := range []int{-1, 0, 1} {
		if class.Run(nil, from, class.Char) != 0 || class.Run(nil, from, nil) != 0 {
			t.Errorf("nil has a run from %d on", from)
		}
	}
}

// P4.2: a function that is handed in is asked of the row's runes, and its own panic goes on.
func TestFunctionsOfTheCaller(t *testing.T) {
	l := []rune{'x', api.Bad, 0xD800, 'y'}
	var seen []rune
	class.Run(l, 1, func(r rune) bool {
		seen = append(seen, r)
		return true
	})
	if !slices.Equal(seen, l[1:]) {
		t.Errorf("asked of %x", seen)
	}
	for _, f := range []func(is func(r rune) bool){
		func(is func(r rune) bool) { class.All(l, is) },
		func(is func(r rune) bool) { class.Run(l, 2, is) },
	} {
		func() {
			defer func() {
				if recover() != "own" {
					t.Error("the function's panic does not go on")
				}
			}()
			f(func(r rune) bool { panic("own") })
		}()
	}
}

// P4.3
func TestClassesWithinOneAnother(t *testing.T) {
	every(func(r rune) {
		if class.NameStart(r) && !class.NameChar(r) {
			t.Errorf("%x begins a name, and is none of a name", r)
		}
		if !class.Char(r) && (class.NameChar(r) || class.Space(r) || class.Pubid(r)) {
			t.Errorf("%x is no Char", r)
		}
		if class.Space(r) && class.NameChar(r) {
			t.Errorf("%x is a blank, and of a name", r)
		}
	})
}

// The rules that hold everywhere, 4: a row that is handed in is not changed.
func TestRowsStay(t *testing.T) {
	l := []rune{' ', api.Bad, 'a', '\t'}
	was := slices.Clone(l)
	class.All(l, asked[2])
	class.Run(l, 1, asked[2])
	if !slices.Equal(l, was) {
		t.Errorf("%x is %x now", was, l)
	}
}

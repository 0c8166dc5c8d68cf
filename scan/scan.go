// Package scan is layer 1: bytes as runes, all of them. See shared/doc/01-scan.md.
package scan

import (
	"strings"
	"unicode/utf8"

	"rubric/api"
)

// Item is a rune of bytes, or bytes that are none: where they begin, how many they are.
type Item struct {
	R      rune
	Off, N int
}

// Items: all of bytes (UTF-8).
func Items(b []byte) []Item {
	s := string(b)
	l := make([]Item, 0, utf8.RuneCountInString(s))
	for off, r := range s {
		r, n := piece(s[off:], r)
		l = append(l, Item{R: r, Off: off, N: n})
	}
	return l
}

// First: the one at the beginning of bytes.
func First(b []byte) (rune, int) {
	if len(b) == 0 {
		return 0, 0
	}
	r, _ := utf8.DecodeRune(b)
	return piece(string(b[:min(len(b), utf8.UTFMax)]), r)
}

// piece is the rune at the beginning of s, and how many bytes it has, where the library reads r there.
// The library reads U+FFFD both where it stands and where bytes are no rune: only the bytes tell the two apart.
func piece(s string, r rune) (rune, int) {
	if r == utf8.RuneError && !strings.HasPrefix(s, string(utf8.RuneError)) {
		return api.Bad, 1
	}
	return r, Width(r)
}

// Bytes: runes as bytes; those that have none are left out.
func Bytes(l ...rune) []byte {
	b := make([]byte, 0, len(l))
	for _, r := range l {
		// The library would write U+FFFD for a rune that has no bytes.
		if Width(r) > 0 {
			b = utf8.AppendRune(b, r)
		}
	}
	return b
}

// Valid: are there none that are no rune?
func Valid(b []byte) bool { return utf8.Valid(b) }

// Width: how many bytes a rune has; 0, if it has none.
func Width(r rune) int { return max(utf8.RuneLen(r), 0) }

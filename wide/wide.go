// Package wide is layer 2: bytes as runes of sixteen bits. See shared/doc/02-wide.md.
package wide

import (
	"rubric/api"
	"rubric/scan"
)

// Where the numbers lie that stand for no rune by themselves, but two of them for one.
const (
	leads  = 0xD800 // the first one that leads two units
	trails = 0xDC00 // the first one that follows
	beyond = 0xE000 // the first one that is a rune again

	pairs = 0x10000 // the first rune that takes two units
	most  = 0x10FFFF

	half = 10          // how many bits of a rune each of two units has
	low  = 1<<half - 1 // the bits of the second one
)

// Items: all of bytes (UTF-16; the higher byte first, if big).
func Items(b []byte, big bool) []scan.Item {
	unit := reader(big)
	l := make([]scan.Item, 0, (len(b)+1)/2)
	for off := 0; off < len(b); {
		r, n := first(b[off:], unit)
		l = append(l, scan.Item{R: r, Off: off, N: n})
		off += n
	}
	return l
}

// first is the piece at the beginning of bytes that are not empty, and how many bytes it has.
func first(b []byte, unit func(x, y byte) rune) (rune, int) {
	if len(b) < 2 {
		return api.Bad, 1
	}
	u := unit(b[0], b[1])
	if u < leads || u >= beyond {
		return u, 2
	}
	if u < trails && len(b) >= 4 {
		if v := unit(b[2], b[3]); v >= trails && v < beyond {
			return pairs + (u-leads)<<half + (v - trails), 4
		}
	}
	return api.Bad, 2
}

// reader is what makes a unit of two bytes as they stand.
func reader(big bool) func(x, y byte) rune {
	if big {
		return func(x, y byte) rune { return rune(x)<<8 | rune(y) }
	}
	return func(x, y byte) rune { return rune(y)<<8 | rune(x) }
}

// Bytes: runes as bytes; those that have none are left out.
func Bytes(big bool, l ...rune) []byte {
	put := writer(big)
	b := make([]byte, 0, 2*len(l))
	for _, r := range l {
		switch Width(r) {
		case 2:
			b = put(b, r)
		case 4:
			b = put(b, leads+(r-pairs)>>half)
			b = put(b, trails+(r-pairs)&low)
		}
	}
	return b
}

// writer is what puts a unit behind bytes.
func writer(big bool) func(b []byte, u rune) []byte {
	if big {
		return func(b []byte, u rune) []byte { return append(b, byte(u>>8), byte(u)) }
	}
	return func(b []byte, u rune) []byte { return append(b, byte(u), byte(u>>8)) }
}

// Width: how many bytes a rune has; 0, if it has none.
func Width(r rune) int {
	switch {
	case r < 0, r >= leads && r < beyond, r > most:
		return 0
	case r < pairs:
		return 2
	}
	return 4
}

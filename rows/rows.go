// Package rows has rows of runes for the tests of layers that read them.
package rows

import "rubric/api"

// In a text for tests each byte stands for one rune: these for others than their own.
// So what is told of a text's bytes can be held against what is told of a row's runes.
const (
	Bad   = '\x01' // bytes that are no rune
	Start = '\x02' // é, which begins a name
	Char  = '\x03' // ·, which may stand in one
	Other = '\x04' // ×, which no name has
)

// Of is the runes of such a text.
func Of(s string) []rune {
	l := make([]rune, len(s))
	for i := range l {
		switch s[i] {
		case Bad:
			l[i] = api.Bad
		case Start:
			l[i] = 'é'
		case Char:
			l[i] = '·'
		case Other:
			l[i] = '×'
		default:
			l[i] = rune(s[i])
		}
	}
	return l
}

// All calls f with each text of at most n of some parts.
func All(n int, parts []string, f func(s string)) {
	f("")
	if n == 0 {
		return
	}
	for _, p := range parts {
		All(n-1, parts, func(s string) { f(p + s) })
	}
}

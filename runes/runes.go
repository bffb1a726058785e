// Package runes: texts as runes, whatever their bytes are.
package runes

import (
	"strings"
	"unicode/utf8"
)

// The classes of runes.
const (
	Other  = 0
	Letter = 1
	Digit  = 2
	Space  = 3
)

// List are a text's pieces, each a rune.
func List(s string) []rune {
	list := make([]rune, 0, Count(s))
	for _, r := range s {
		list = append(list, r)
	}
	return list
}

// Valid tells whether each piece is a rune.
func Valid(s string) bool { return utf8.ValidString(s) }

// Count is how many pieces there are.
func Count(s string) int {
	n := 0
	for range s {
		n++
	}
	return n
}

// Cut are the first pieces.
func Cut(s string, n int) string {
	for i := range s {
		if n < 1 {
			return s[:i]
		}
		n--
	}
	return s
}

// At is the piece that begins at a byte.
func At(s string, i int) (rune, int, bool) {
	if i < 0 || i >= len(s) {
		return 0, 0, false
	}
	// A piece has at most four bytes: one with the byte i in it lies within three
	// bytes of i, and one that the window's beginning cuts ends ahead of i, its
	// rest told as single bytes.
	const most = utf8.UTFMax - 1
	from, end := max(0, i-most), min(len(s), i+most+1)
	for at, r := range s[from:end] {
		if from+at == i {
			return r, width(s[i:]), true
		}
	}
	return 0, 0, false
}

// Back are the pieces, the last one first.
func Back(s string) string {
	back := make([]byte, len(s))
	end := len(s)
	for i := range s {
		piece := s[i : i+width(s[i:])]
		end -= len(piece)
		copy(back[end:], piece)
	}
	return string(back)
}

// Class is what a rune is.
func Class(r rune) int {
	switch {
	case '0' <= r && r <= '9':
		return Digit
	case isSpace(r):
		return Space
	case isLetter(r):
		return Letter
	}
	return Other
}

// Upper is the greater one of a letter's two.
func Upper(r rune) rune {
	switch {
	case 'a' <= r && r <= 'z',
		0xe0 <= r && r <= 0xf6,
		0xf8 <= r && r <= 0xfe,
		0x3b1 <= r && r <= 0x3c1,
		0x3c3 <= r && r <= 0x3c9,
		0x430 <= r && r <= 0x44f:
		return r - 32
	case r == 0x3c2:
		return 0x3a3
	}
	return r
}

// Fold is a text with each rune's Upper.
func Fold(s string) string {
	var b strings.Builder
	b.Grow(len(s))
	for i, r := range s {
		if r == utf8.RuneError {
			// The range tells this rune of wrong bytes too, and they are to stay.
			b.WriteString(s[i : i+width(s[i:])])
			continue
		}
		b.WriteRune(Upper(r))
	}
	return b.String()
}

// width is how many bytes the first piece has.
func width(s string) int {
	_, n := utf8.DecodeRuneInString(s)
	return n
}

func isSpace(r rune) bool {
	switch r {
	case 0x9, 0xa, 0xd, 0x20, 0xa0, 0x3000:
		return true
	}
	return false
}

func isLetter(r rune) bool {
	switch {
	case 'a' <= r && r <= 'z',
		'A' <= r && r <= 'Z',
		r == '_', r == 0xaa, r == 0xb5, r == 0xba,
		0xc0 <= r && r <= 0xd6,
		0xd8 <= r && r <= 0xf6,
		0xf8 <= r && r <= 0x24f,
		0x391 <= r && r <= 0x3a1,
		0x3a3 <= r && r <= 0x3a9,
		0x3b1 <= r && r <= 0x3c9,
		0x410 <= r && r <= 0x44f,
		0x4e00 <= r && r <= 0x9fff:
		return true
	}
	return false
}

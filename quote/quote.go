// Package quote has texts of any bytes as texts that can be read. See shared/doc/02-quote.md.
package quote

import (
	"strings"
	"unicode/utf8"

	"bower/api"
)

const hexDigits = "0123456789abcdef"

// Put tells a text's quote.
func Put(s string) string {
	b := []byte{'"'}
	for at, r := range s {
		switch {
		case stray(s[at:], r):
			b = escape(b, 'x', 2, uint32(s[at]))
		case r == '"' || r == '\\':
			b = append(b, '\\', byte(r))
		case shows(r):
			b = utf8.AppendRune(b, r)
		case r < 0x80:
			b = escape(b, 'x', 2, uint32(r))
		default:
			b = escape(b, 'u', 4, uint32(r))
		}
	}
	return string(append(b, '"'))
}

// Get tells the text of a quote.
func Get(t string) (string, api.Errno) {
	s, ok := unquote(t)
	if !ok || Put(s) != t { // a text can be told in many ways, but only one of them is its quote
		return "", api.ErrForm
	}
	return s, api.OK
}

// Runes tells how many runes a text has.
func Runes(s string) int {
	n := 0
	for range s {
		n++
	}
	return n
}

// First tells the first runes of a text.
func First(s string, n int) string {
	for at := range s {
		if n < 1 {
			return s[:at]
		}
		n--
	}
	return s
}

// Strays tells how many bytes are no rune's.
func Strays(s string) int {
	n := 0
	for at, r := range s {
		if stray(s[at:], r) {
			n++
		}
	}
	return n
}

// stray tells whether what stands first in a text, and was read as the rune r, is a byte at which no rune begins.
// A stray is read as the rune fffd; but that one may stand in the text by itself too.
func stray(rest string, r rune) bool {
	return r == utf8.RuneError && !strings.HasPrefix(rest, string(utf8.RuneError))
}

// shows tells whether a rune shows itself.
func shows(r rune) bool {
	return r >= 0x20 && r <= 0x7e && r != '"' && r != '\\' || r >= 0xa0
}

// escape adds a \, a sign, and a number's digits to the base 16, so many of them.
func escape(b []byte, sign byte, digits int, n uint32) []byte {
	b = append(b, '\\', sign)
	for i := range digits {
		b = append(b, hexDigits[n>>(4*(digits-1-i))&15])
	}
	return b
}

// unquote takes back what Put does. It is told some texts that are no quotes too.
func unquote(t string) (string, bool) {
	if len(t) < 2 || t[0] != '"' || t[len(t)-1] != '"' {
		return "", false
	}
	rest := t[1 : len(t)-1]
	var b []byte
	for rest != "" {
		piece, size := part(rest)
		if size == 0 {
			return "", false
		}
		b = append(b, piece...)
		rest = rest[size:]
	}
	return string(b), true
}

// part tells what the first part of a quote's inside stands for, and how long it is; 0 if it is no part.
func part(rest string) (string, int) {
	if rest[0] != '\\' {
		return rest[:1], 1
	}
	if len(rest) < 2 {
		return "", 0
	}
	switch rest[1] {
	case '"', '\\':
		return rest[1:2], 2
	case 'x':
		if n, ok := number(rest[2:], 2); ok {
			return string([]byte{byte(n)}), 4
		}
	case 'u':
		if n, ok := number(rest[2:], 4); ok {
			return string(n), 6
		}
	}
	return "", 0
}

// number tells the number that so many digits to the base 16 say, with which a text begins.
func number(rest string, digits int) (rune, bool) {
	if len(rest) < digits {
		return 0, false
	}
	var n rune
	for i := range digits {
		d := strings.IndexByte(hexDigits, rest[i])
		if d < 0 {
			return 0, false
		}
		n = n<<4 | rune(d)
	}
	return n, true
}

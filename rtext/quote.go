package rtext

import (
	"strconv"
	"strings"

	"nomenclator/api"
)

// String reads a text with escapes.
func String(s string) (string, api.Errno) {
	b := make([]byte, 0, len(s))
	for len(s) > 0 {
		c, n := first(s)
		if n == 0 {
			return "", api.ErrData
		}
		b = append(b, c)
		s = s[n:]
	}
	return string(b), api.OK
}

// Quote tells a text in quotes.
func Quote(s string) string {
	var t strings.Builder
	t.WriteByte('"')
	for i := range len(s) {
		switch c := s[i]; {
		case c == '"', c == '\\':
			t.WriteByte('\\')
			t.WriteByte(c)
		case c < ' ', '~' < c:
			t.WriteByte('\\')
			t.WriteByte('0' + c/100)
			t.WriteByte('0' + c/10%10)
			t.WriteByte('0' + c%10)
		default:
			t.WriteByte(c)
		}
	}
	t.WriteByte('"')
	return t.String()
}

// first tells the byte for which the front of a text stands, and how many bytes of the text say it; 0, if they say none.
func first(s string) (byte, int) {
	switch {
	case s[0] != '\\':
		return s[0], 1
	case len(s) > 1 && !digit(s[1]):
		return s[1], 2
	case len(s) > 3:
		return numbered(s[1:4])
	}
	return 0, 0
}

// numbered reads the three digits behind a backslash as first does.
func numbered(digits string) (byte, int) {
	n, err := strconv.ParseUint(digits, 10, 8)
	if err != nil {
		return 0, 0
	}
	return byte(n), 1 + len(digits)
}

// digit tells whether a byte is a decimal digit.
func digit(c byte) bool { return '0' <= c && c <= '9' }

package label

import (
	"strings"

	"nomenclator/api"
)

// An escape by its number has so many digits, and says at most so much.
const (
	numberDigits = 3
	greatestByte = 255
)

// style is how a byte is written in a label's text.
type style int

const (
	bare   style = iota // as it is
	marked              // behind a backslash
	told                // as a number behind a backslash
)

// Text tells a label's text.
func Text(s string) string {
	var t strings.Builder
	for i := range len(s) {
		c := s[i]
		switch written(c) {
		case bare:
			t.WriteByte(c)
		case marked:
			t.WriteByte('\\')
			t.WriteByte(c)
		case told:
			t.WriteByte('\\')
			t.WriteByte('0' + c/100)
			t.WriteByte('0' + c/10%10)
			t.WriteByte('0' + c%10)
		}
	}
	return t.String()
}

// Parse reads a label's text. It reads on when the label is too long already, for a fault further on is told first.
func Parse(s string) (string, int, api.Errno) {
	var b []byte
	at := 0
	for at < len(s) && s[at] != '.' {
		c, n := first(s[at:])
		if n == 0 {
			return "", 0, api.ErrEscape
		}
		b = append(b, c)
		at += n
	}
	if e := Check(string(b)); e != api.OK {
		return "", 0, e
	}
	return string(b), at, api.OK
}

// written tells how a byte is written.
func written(c byte) style {
	switch {
	case c < '!', '~' < c:
		return told
	case '(' <= c && c <= ')':
		return marked
	case c == '"', c == '$', c == '.', c == ';', c == '@', c == '\\':
		return marked
	}
	return bare
}

// first tells the byte that the front of a text stands for, and how many bytes of the text say it; 0, if they say none.
func first(s string) (byte, int) {
	switch {
	case !visible(s[0]):
		return 0, 0
	case s[0] != '\\':
		return s[0], 1
	case len(s) > 1 && digit(s[1]):
		return numbered(s)
	case len(s) > 1 && visible(s[1]):
		return s[1], 2
	}
	return 0, 0
}

// numbered reads a backslash and the digits behind it as first does.
func numbered(s string) (byte, int) {
	if len(s) < 1+numberDigits {
		return 0, 0
	}
	n := 0
	for i := range numberDigits {
		c := s[1+i]
		if !digit(c) {
			return 0, 0
		}
		n = 10*n + int(c-'0')
	}
	if n > greatestByte {
		return 0, 0
	}
	return byte(n), 1 + numberDigits
}

// visible tells whether a byte may stand in a text by itself or behind a backslash.
func visible(c byte) bool { return '!' <= c && c <= '~' }

// digit tells whether a byte is a decimal digit.
func digit(c byte) bool { return '0' <= c && c <= '9' }

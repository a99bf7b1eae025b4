// Package octet is layer 1: bytes, written and read: see shared/doc/01-octet.md.
package octet

import (
	"math"
	"strings"

	"nomenclator/api"
)

// Both texts have a digit at the place of its worth.
const (
	smallDigits = "0123456789abcdef"
	largeDigits = "0123456789ABCDEF"
)

// maxDigits is as many digits as the longest data have.
const maxDigits = 2 * api.MaxData

// Put16 writes a number in two bytes.
func Put16(n int) ([]byte, api.Errno) {
	if n < 0 || n > math.MaxUint16 {
		return nil, api.ErrArg
	}
	return []byte{byte(n >> 8), byte(n)}, api.OK
}

// Put32 writes a number in four bytes.
func Put32(n uint32) []byte {
	return []byte{byte(n >> 24), byte(n >> 16), byte(n >> 8), byte(n)}
}

// U16 reads a number in two bytes.
func U16(b []byte, at int) (int, bool) {
	p, ok := piece(b, at, 2)
	return int(number(p)), ok
}

// U32 reads a number in four bytes.
func U32(b []byte, at int) (uint32, bool) {
	p, ok := piece(b, at, 4)
	return number(p), ok
}

// Join lays pieces one behind the other.
func Join(l [][]byte) []byte {
	size := 0
	for _, p := range l {
		size += len(p)
	}
	all := make([]byte, 0, size)
	for _, p := range l {
		all = append(all, p...)
	}
	return all
}

// Hex tells digits.
func Hex(b []byte) string {
	var s strings.Builder
	s.Grow(2 * len(b))
	for _, c := range b {
		s.WriteByte(smallDigits[c>>4])
		s.WriteByte(smallDigits[c&15])
	}
	return s.String()
}

// Unhex reads digits.
func Unhex(s string) ([]byte, api.Errno) {
	if len(s) > maxDigits {
		return nil, api.ErrLong
	}
	if len(s)%2 != 0 {
		return nil, api.ErrDigits
	}
	b := make([]byte, 0, len(s)/2)
	for i := 0; i < len(s); i += 2 {
		high, low := worth(s[i]), worth(s[i+1])
		if high < 0 || low < 0 {
			return nil, api.ErrDigits
		}
		b = append(b, byte(high<<4|low))
	}
	return b, api.OK
}

// worth tells what a digit stands for; -1, if it is none.
func worth(c byte) int {
	return max(strings.IndexByte(smallDigits, c), strings.IndexByte(largeDigits, c))
}

// piece tells the n bytes of b from the place at on, as they lie there. It takes from the length, for a sum of at and n could wrap round.
func piece(b []byte, at, n int) ([]byte, bool) {
	if at < 0 || at > len(b) || n < 0 || n > len(b)-at {
		return nil, false
	}
	return b[at : at+n], true
}

// number tells the number that up to four bytes are.
func number(b []byte) uint32 {
	n := uint32(0)
	for _, c := range b {
		n = n<<8 | uint32(c)
	}
	return n
}

package master

import (
	"strconv"
	"strings"

	"nomenclator/label"
)

const (
	secondsBits = 31           // so many bits has a number of seconds at most
	digits      = "0123456789" // what numbers are made of
	letters     = "wdhms"      // what may stand behind a number, folded, in its order
)

// lengths are how many seconds each letter stands for.
var lengths = [len(letters)]uint64{604800, 86400, 3600, 60, 1}

// seconds reads a number of seconds, and tells whether it is one.
func seconds(s string) (uint32, bool) {
	if n, isOne := number(s); isOne {
		return n, true
	}
	return sum(label.Fold(s))
}

// sum reads numbers with letters behind them. A letter is looked for behind the one ahead of it alone, so none comes twice or too late.
func sum(s string) (uint32, bool) {
	all, from := uint64(0), 0
	for s != "" {
		behind := strings.TrimLeft(s, digits)
		n, isOne := number(s[:len(s)-len(behind)])
		if !isOne || behind == "" {
			return 0, false
		}
		place := strings.IndexByte(letters[from:], behind[0])
		if place < 0 {
			return 0, false
		}
		all += uint64(n) * lengths[from+place]
		from += place + 1
		s = behind[1:]
	}
	return uint32(all), from > 0 && fits(all)
}

// fits tells whether so many seconds may be said.
func fits(n uint64) bool { return n < 1<<secondsBits }

// number reads decimal digits alone. strconv takes noughts ahead, too.
func number(s string) (uint32, bool) {
	if len(s) > 1 && s[0] == '0' {
		return 0, false
	}
	n, err := strconv.ParseUint(s, 10, secondsBits)
	return uint32(n), err == nil
}

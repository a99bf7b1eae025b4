package rtext

import (
	"strconv"
	"strings"

	"nomenclator/api"
)

// What the two kinds of addresses are made of.
const (
	shortSize  = 4            // bytes of a short one
	longSize   = 16           // bytes of a long one
	longCount  = longSize / 2 // numbers of a long one
	longDigits = 4            // digits of such a number, at most
	dot        = "."
	colon      = ":"
	gap        = "::" // stands for a run of noughts
)

// Address tells the text of four or sixteen bytes.
func Address(b []byte) (string, api.Errno) {
	if len(b) != shortSize && len(b) != longSize {
		return "", api.ErrData
	}
	return addressText(b), api.OK
}

// ParseAddress reads an address.
func ParseAddress(s string) ([]byte, api.Errno) {
	parse := parseShort
	if strings.Contains(s, colon) {
		parse = parseLong
	}
	b, ok := parse(s)
	if !ok {
		return nil, api.ErrData
	}
	return b, api.OK
}

// addressText tells the text of an address's bytes.
func addressText(b []byte) string {
	if len(b) == shortSize {
		return shortText(b)
	}
	return longText(b)
}

// shortText tells the text of four bytes.
func shortText(b []byte) string {
	var parts []string
	for _, c := range b {
		parts = append(parts, strconv.Itoa(int(c)))
	}
	return strings.Join(parts, dot)
}

// longText tells the text of sixteen bytes.
func longText(b []byte) string {
	var nums [longCount]uint16
	for i := range nums {
		nums[i] = uint16(b[2*i])<<8 | uint16(b[2*i+1])
	}
	from, to := longestRun(nums)
	if from == to {
		return joined(nums[:])
	}
	return joined(nums[:from]) + gap + joined(nums[to:])
}

// longestRun tells where the longest run of two or more noughts, the first of several, begins and where it ends; the same place twice, if there is none. One mark stands at the run's first number, the other one runs on.
func longestRun(nums [longCount]uint16) (int, int) {
	from, to := 0, 0
	for left, right := 0, 0; right < len(nums); right++ {
		if nums[right] != 0 {
			left = right + 1
		}
		if right+1-left > max(1, to-from) {
			from, to = left, right+1
		}
	}
	return from, to
}

// joined tells numbers in digits with colons between.
func joined(nums []uint16) string {
	var parts []string
	for _, n := range nums {
		parts = append(parts, strconv.FormatUint(uint64(n), 16))
	}
	return strings.Join(parts, colon)
}

// parseShort reads an address of four bytes.
func parseShort(s string) ([]byte, bool) {
	parts := strings.Split(s, dot)
	if len(parts) != shortSize {
		return nil, false
	}
	var b []byte
	for _, p := range parts {
		n, isNumber := number(p, 8)
		if !isNumber {
			return nil, false
		}
		b = append(b, byte(n))
	}
	return b, true
}

// parseLong reads an address of sixteen bytes. What the gap stands for is at least one number, and there are none without it.
func parseLong(s string) ([]byte, bool) {
	front, back, hasGap := strings.Cut(s, gap)
	head, headGood := pairs(front)
	tail, tailGood := pairs(back)
	noughts := longSize - len(head) - len(tail)
	if !headGood || !tailGood || noughts < 0 || hasGap != (noughts > 0) {
		return nil, false
	}
	b := append(head, make([]byte, noughts)...)
	return append(b, tail...), true
}

// pairs reads numbers with colons between as two bytes each; of an empty text none.
func pairs(s string) ([]byte, bool) {
	if s == "" {
		return nil, true
	}
	var b []byte
	for _, p := range strings.Split(s, colon) {
		n, err := strconv.ParseUint(p, 16, 16)
		if err != nil || len(p) > longDigits {
			return nil, false
		}
		b = append(b, byte(n>>8), byte(n))
	}
	return b, true
}

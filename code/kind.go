package code

import (
	"math"
	"strconv"
	"strings"

	"nomenclator/api"
)

// Each text has own words, and behind each of them its number, in the form in which numbers are told behind a prefix.
const (
	typeWords   = "A 1 NS 2 CNAME 5 SOA 6 PTR 12 MX 15 TXT 16 AAAA 28 SRV 33 OPT 41 ANY 255 CAA 257"
	classWords  = "IN 1 CH 3 HS 4 NONE 254 ANY 255"
	rcodeWords  = "NOERROR 0 FORMERR 1 SERVFAIL 2 NXDOMAIN 3 NOTIMP 4 REFUSED 5 YXDOMAIN 6 YXRRSET 7 NXRRSET 8 NOTAUTH 9 NOTZONE 10 BADVERS 16"
	opcodeWords = "QUERY 0 IQUERY 1 STATUS 2 NOTIFY 4 UPDATE 5"
)

// The greatest numbers that a message has room for: a reply's code has 12 bits, what a message wants has 4.
const (
	maxRcode  = 1<<12 - 1
	maxOpcode = 1<<4 - 1
)

// kind is a kind of numbers that have words: its own words with their numbers, the prefix of all others, the greatest number.
type kind struct {
	own    string
	prefix string
	most   int
}

func types() kind   { return kind{typeWords, "TYPE", math.MaxUint16} }
func classes() kind { return kind{classWords, "CLASS", math.MaxUint16} }
func rcodes() kind  { return kind{rcodeWords, "RCODE", maxRcode} }
func opcodes() kind { return kind{opcodeWords, "OPCODE", maxOpcode} }

// tell tells the word of a number that may be none of the kind's.
func (k kind) tell(n int) (string, api.Errno) {
	if n < 0 || n > k.most {
		return "", api.ErrArg
	}
	return k.word(n), api.OK
}

// word tells the word of one of the kind's numbers.
func (k kind) word(n int) string {
	digits := strconv.Itoa(n)
	own := strings.Fields(k.own)
	for i := 1; i < len(own); i += 2 {
		if own[i] == digits {
			return own[i-1]
		}
	}
	return k.prefix + digits
}

// parse reads a word, its letters great or small.
func (k kind) parse(s string) (int, api.Errno) {
	digits, ok := k.digits(great(s))
	if !ok {
		return 0, api.ErrType
	}
	return k.number(digits)
}

// digits tells what stands for a word's number: of an own word the digits behind it, of all others what is behind the prefix, whatever that is.
func (k kind) digits(word string) (string, bool) {
	own := strings.Fields(k.own)
	for i := 1; i < len(own); i += 2 {
		if own[i-1] == word {
			return own[i], true
		}
	}
	return strings.CutPrefix(word, k.prefix)
}

// number reads digits. strconv takes a sign and noughts ahead, too; so only what it would write itself is taken.
func (k kind) number(digits string) (int, api.Errno) {
	n, err := strconv.Atoi(digits)
	if err != nil || n < 0 || n > k.most || strconv.Itoa(n) != digits {
		return 0, api.ErrType
	}
	return n, api.OK
}

// great makes small letters great. It goes by bytes: strings.ToUpper would make letters of words out of bytes that are none of A to Z, a to z.
func great(s string) string {
	b := []byte(s)
	for i, c := range b {
		if 'a' <= c && c <= 'z' {
			b[i] = c - 'a' + 'A'
		}
	}
	return string(b)
}

package code_test

import (
	"fmt"
	"math/rand"
	"strings"
	"testing"

	"nomenclator/api"
	"nomenclator/code"
)

// read is what the document says of a text, told by trying every word of the kind: numbers are taken from their words, never read out of digits.
func (k kind) read(words map[string]int, s string) (int, api.Errno) {
	if n, ok := words[small(s)]; ok {
		return n, api.OK
	}
	return 0, api.ErrType
}

// words are all words of the kind that are read, with small letters.
func (k kind) words() map[string]int {
	all := map[string]int{}
	for n := range k.most + 1 {
		all[small(fmt.Sprintf("%s%d", k.prefix, n))] = n
		all[small(k.word(n))] = n
	}
	return all
}

// small makes letters small, told the long way.
func small(s string) string {
	var b strings.Builder
	for i := range len(s) {
		c := s[i]
		if j := strings.IndexByte("ABCDEFGHIJKLMNOPQRSTUVWXYZ", c); j >= 0 {
			c = "abcdefghijklmnopqrstuvwxyz"[j]
		}
		b.WriteByte(c)
	}
	return b.String()
}

// readers are the kinds whose words are read.
func readers() []kind { return kinds()[:3] }

// refuse sees that a kind refuses a text.
func refuse(t *testing.T, k kind, s string) {
	t.Helper()
	if n, e := k.parse(s); n != 0 || e != api.ErrType {
		t.Errorf("Parse%s(%q) = %d, %d", k.name, s, n, e)
	}
}

// take sees that a kind reads a text as a number.
func take(t *testing.T, k kind, s string, want int) {
	t.Helper()
	if n, e := k.parse(s); n != want || e != api.OK {
		t.Errorf("Parse%s(%q) = %d, %d, not %d", k.name, s, n, e, want)
	}
}

// P4.2: ParseType, ParseClass, ParseRcode.

func TestParseExamples(t *testing.T) {
	k := readers()
	for s, want := range map[string]int{"mx": 15, "TYPE1": 1, "Type65535": 65535, "A": 1, "a": 1, "aaaa": 28, "AaAa": 28, "ANY": 255, "any": 255, "Opt": 41, "caa": 257, "type0": 0, "tYpE41": 41, "TYPE255": 255, "TYPE99": 99} {
		take(t, k[0], s, want)
	}
	for s, want := range map[string]int{"class255": 255, "IN": 1, "in": 1, "Ch": 3, "hS": 4, "none": 254, "Any": 255, "CLASS1": 1, "CLASS0": 0, "class2": 2, "cLaSs65535": 65535} {
		take(t, k[1], s, want)
	}
	for s, want := range map[string]int{"NOERROR": 0, "noerror": 0, "NxDomain": 3, "badvers": 16, "RCODE0": 0, "rcode3": 3, "Rcode11": 11, "RCODE16": 16, "rCoDe4095": 4095, "refused": 5} {
		take(t, k[2], s, want)
	}
}

func TestParseRefuses(t *testing.T) {
	k := readers()
	for _, s := range []string{"TYPE01", "TYPE65536", "TYPE", "IN"} {
		refuse(t, k[0], s)
	}
	for _, s := range []string{"CLASS01", "CLASS65536", "CLASS", "A"} {
		refuse(t, k[1], s)
	}
	for _, s := range []string{"RCODE03", "RCODE4096", "RCODE65535", "RCODE", "IN", "QUERY"} {
		refuse(t, k[2], s)
	}
	for _, k := range k {
		for _, s := range []string{"", " ", "  ", "\x00", "\xff", "é", "0", "1", "5", "15", "255", "257", "-1", "+1", ".", "X", "ZZ", "B"} {
			refuse(t, k, s)
		}
	}
}

// behind are texts that are no number behind a prefix.
func behind() []string {
	return []string{"", " ", "00", "01", "001", "0000000001", "00000", "065535", "+1", "-1", "-0", "+0", "--1", " 1", "1 ", "1\n", "\t1", "1x", "x1", "1.", "1.0", "1,0", "1e1", "1_0", "0x1", "0X1", "0b1", "0o1", "1-", "1+1", "\x001", "1\x00", "١", "1é",
		"65536", "65537", "99999", "100000", "131072", "4294967296", "4294967297", "18446744073709551615", "18446744073709551616", "18446744073709551617", "9223372036854775807", "9223372036854775808", strings.Repeat("9", 1000), strings.Repeat("0", 1000), strings.Repeat("0", 1000) + "1"}
}

func TestPrefixWithNoNumber(t *testing.T) {
	for _, k := range readers() {
		for _, d := range behind() {
			refuse(t, k, k.prefix+d)
			refuse(t, k, small(k.prefix)+d)
		}
		for n := k.most + 1; n < k.most+5000; n++ {
			refuse(t, k, fmt.Sprintf("%s%d", k.prefix, n))
		}
		for n := range 300 {
			refuse(t, k, fmt.Sprintf("%s0%d", k.prefix, n))
			refuse(t, k, fmt.Sprintf("%s-%d", k.prefix, n))
			refuse(t, k, fmt.Sprintf("%s+%d", k.prefix, n))
		}
	}
}

func TestPrefixWithMore(t *testing.T) {
	for _, k := range readers() {
		for _, s := range []string{" " + k.prefix + "1", k.prefix + k.prefix + "1", k.prefix + "1" + k.prefix, k.prefix + " 1", "X" + k.prefix + "1", k.prefix[1:] + "1", k.prefix[:len(k.prefix)-1] + "1", k.prefix + "S1", k.prefix + k.word(1), "." + k.prefix + "1", k.prefix + "1.", k.prefix + "#1"} {
			refuse(t, k, s)
		}
	}
}

func TestOwnWordsWithMore(t *testing.T) {
	for _, k := range readers() {
		for n, s := range k.own {
			for _, more := range []string{" ", "\t", "\n", "\x00", ".", "0", "1", "X", "x", "é", " " + s, fmt.Sprintf(" %d", n), fmt.Sprint(n)} {
				refuse(t, k, s+more)
				refuse(t, k, more+s)
			}
			refuse(t, k, s+s)
			refuse(t, k, fmt.Sprint(n))
			for i := range s {
				for _, part := range []string{s[:i], s[i+1:]} {
					if !k.has(part) {
						refuse(t, k, part)
					}
				}
			}
		}
	}
}

// has tells whether a text is one of the kind's own words.
func (k kind) has(s string) bool {
	for _, own := range k.own {
		if own == s {
			return true
		}
	}
	return false
}

func TestWordsOfAnotherKind(t *testing.T) {
	for _, k := range readers() {
		for _, other := range kinds() {
			if other.name == k.name {
				continue
			}
			for n, s := range other.own {
				if s == "ANY" && k.name != "Rcode" {
					take(t, k, s, n) // types and classes both have it
					continue
				}
				refuse(t, k, s)
				refuse(t, k, small(s))
			}
			for _, n := range []string{"", "0", "1", "3", "15", "255"} {
				refuse(t, k, other.prefix+n)
				refuse(t, k, small(other.prefix)+n)
			}
		}
	}
}

// Letters that other languages fold to letters of words are none of them.
func TestLettersOfOtherLanguages(t *testing.T) {
	k := readers()
	for _, s := range []string{"Nſ", "ſoa", "ſRV", "SRⅤ", "ＭＸ", "Ａ", "TYPΕ1", "ᴀ", "TYPE１", "ТYPE1", "type\u0661"} {
		refuse(t, k[0], s)
	}
	for _, s := range []string{"ıN", "İN", "Hſ", "CLAſS1", "claſſ255", "CLASſ2", "ＩＮ"} {
		refuse(t, k[1], s)
	}
	for _, s := range []string{"ſERVFAIL", "REFUſED", "NXRRſET", "BADVERſ", "NOTİMP", "ＲCODE1"} {
		refuse(t, k[2], s)
	}
}

// Bytes beside the letters, and those with a letter's lower bits, are no letters.
func TestBytesForLetters(t *testing.T) {
	for _, k := range readers() {
		words := k.words()
		for _, s := range []string{k.word(1), k.word(4), k.word(16), k.prefix + "7", k.prefix + "10"} {
			for i := range s {
				for c := range 256 {
					b := []byte(s)
					b[i] = byte(c)
					n, e := k.parse(string(b))
					if wn, we := k.read(words, string(b)); n != wn || e != we {
						t.Errorf("Parse%s(%q) = %d, %d, not %d, %d", k.name, b, n, e, wn, we)
					}
				}
			}
		}
	}
}

// All texts of up to three letters, digits and others: what is read of them is what the table says.
func TestParseShort(t *testing.T) {
	const from = "aACHhiIMmNnOPSsTXxYVvRU012-+ ."
	for _, k := range readers() {
		words := k.words()
		var try func(s string, more int)
		try = func(s string, more int) {
			n, e := k.parse(s)
			if wn, we := k.read(words, s); n != wn || e != we {
				t.Errorf("Parse%s(%q) = %d, %d, not %d, %d", k.name, s, n, e, wn, we)
			}
			for i := 0; more > 0 && i < len(from); i++ {
				try(s+from[i:i+1], more-1)
			}
		}
		try("", 3)
	}
}

// mangle turns, adds, drops and swaps bytes of a text.
func mangle(r *rand.Rand, s string) string {
	const from = "aAbEsSoOtTxXrRcC0123456789+-_ .\x00\xff"
	b := []byte(s)
	for range r.Intn(3) {
		c := from[r.Intn(len(from))]
		at := r.Intn(len(b) + 1)
		switch r.Intn(4) {
		case 0:
			b = append(b[:at], append([]byte{c}, b[at:]...)...)
		case 1:
			if at < len(b) {
				b = append(b[:at], b[at+1:]...)
			}
		case 2:
			if at < len(b) {
				b[at] = c
			}
		case 3:
			if at < len(b) {
				b[at] ^= 0x20
			}
		}
	}
	return string(b)
}

func TestParseMangled(t *testing.T) {
	r := rand.New(rand.NewSource(4))
	for _, k := range readers() {
		words := k.words()
		for range 30000 {
			o := kinds()[r.Intn(4)]
			s := o.word(r.Intn(300) % (o.most + 1))
			if r.Intn(3) == 0 {
				s = fmt.Sprintf("%s%d", o.prefix, r.Intn(70000))
			}
			s = mangle(r, s)
			n, e := k.parse(s)
			if wn, we := k.read(words, s); n != wn || e != we {
				t.Errorf("Parse%s(%q) = %d, %d, not %d, %d", k.name, s, n, e, wn, we)
			}
		}
	}
}

// P4.4: what follows.

func TestParseOfWord(t *testing.T) {
	for _, k := range readers() {
		for n := range k.most + 1 {
			s, e := k.tell(n)
			if e != api.OK {
				t.Errorf("%s(%d) is refused, %d", k.name, n, e)
			}
			take(t, k, s, n)
			take(t, k, small(s), n)
			take(t, k, fmt.Sprintf("%s%d", k.prefix, n), n)
		}
	}
}

func TestWordsAreUnlike(t *testing.T) {
	for _, k := range kinds() {
		whose := map[string]int{}
		for n := range k.most + 1 {
			s, _ := k.tell(n)
			if other, ok := whose[small(s)]; ok {
				t.Errorf("%s(%d) and %s(%d) are %q", k.name, other, k.name, n, s)
			}
			whose[small(s)] = n
		}
	}
}

// Every choice of great and small letters of a word is read as the word is.
func TestLettersGreatAndSmall(t *testing.T) {
	for _, k := range readers() {
		for n := range 20 {
			for _, s := range []string{k.word(n), fmt.Sprintf("%s%d", k.prefix, n)} {
				for choice := range 1 << len(s) {
					b := []byte(s)
					for i := range b {
						if choice>>i&1 == 1 {
							b[i] = small(s)[i]
						}
					}
					take(t, k, string(b), n)
				}
			}
		}
	}
}

// P1: calm, and the same each time.

func TestLongTexts(t *testing.T) {
	for _, k := range readers() {
		for _, s := range []string{strings.Repeat("A", 1<<20), strings.Repeat(" ", 1<<20), k.prefix + strings.Repeat("1", 1<<20), strings.Repeat(k.prefix, 1<<16) + "1", strings.Repeat("\x00", 1<<20)} {
			refuse(t, k, s)
		}
	}
}

func TestSameEachTime(t *testing.T) {
	for range 3 {
		for _, k := range readers() {
			refuse(t, k, k.prefix)
			take(t, k, k.prefix+"4", 4)
			take(t, k, k.word(1), 1)
		}
	}
}

func FuzzParse(f *testing.F) {
	for _, s := range []string{"", "mx", "TYPE1", "Type65535", "TYPE01", "class255", "RCODE4096", "rcode-1", "ANY", "ſoa"} {
		f.Add(s)
	}
	all := make([]map[string]int, 3)
	for i, k := range readers() {
		all[i] = k.words()
	}
	f.Fuzz(func(t *testing.T, s string) {
		for i, k := range readers() {
			n, e := k.parse(s)
			if wn, we := k.read(all[i], s); n != wn || e != we {
				t.Errorf("Parse%s(%q) = %d, %d, not %d, %d", k.name, s, n, e, wn, we)
			}
		}
		if a, e := code.ParseType(s); e == api.OK && code.Type(a) == "" {
			t.Errorf("the type of %q has no word", s)
		}
	})
}

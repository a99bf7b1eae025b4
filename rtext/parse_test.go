package rtext_test

import (
	"encoding/hex"
	"math/big"
	"math/rand"
	"regexp"
	"slices"
	"strconv"
	"strings"
	"testing"

	"nomenclator/api"
	names "nomenclator/name"
	"nomenclator/rdata"
	"nomenclator/rtext"
)

// bareWords are words that are not quoted.
func bareWords(texts ...string) []api.Term {
	var l []api.Term
	for _, s := range texts {
		l = append(l, api.Term{Text: s})
	}
	return l
}

func quoted(s string) api.Term { return api.Term{Text: s, Quoted: true} }

func digits(n int) string { return strconv.Itoa(n) }

// long is a name of 255 bytes, broken one of which a label may not be, tooLong one of 256 bytes.
var (
	long    = name(strings.Repeat("a", 63), strings.Repeat("b", 63), strings.Repeat("c", 63), strings.Repeat("d", 61))
	tooLong = name(strings.Repeat("a", 63), strings.Repeat("b", 63), strings.Repeat("c", 63), strings.Repeat("d", 62))
	broken  = name("a", "", "b")
	origins = []api.Name{nil, name("b"), name("X", "b.c", "\x00"), long}
)

// check holds what Parse answers against what it should: data, or an error with none.
func check(t *testing.T, kind api.Type, words []api.Term, origin api.Name, want api.Data, wantError api.Errno) {
	t.Helper()
	d, e := rtext.Parse(kind, words, origin)
	if e != wantError || !same(d, want) {
		t.Errorf("Parse(%d, %.80v, %.20q) = %.80v, %v, not %.80v, %v", kind, words, origin, d, e, want, wantError)
	}
}

func refuse(t *testing.T, kind api.Type, words []api.Term) {
	t.Helper()
	check(t, kind, words, name("b"), api.Data{}, api.ErrData)
}

func TestParse(t *testing.T) {
	soa := []uint32{1, 20, 4294967295, 0, 65536}
	for _, x := range []struct {
		t     api.Type
		words []api.Term
		want  api.Data
	}{
		{api.A, bareWords("1.2.3.4"), raw(1, 2, 3, 4)},
		{api.A, bareWords(`\#`, "4", "0102", "0304"), raw(1, 2, 3, 4)},
		{api.AAAA, bareWords("1::A"), api.Data{Raw: eight(1, 0, 0, 0, 0, 0, 0, 10)}},
		{api.NS, bareWords("a"), api.Data{Names: []api.Name{name("a", "b")}}},
		{api.NS, bareWords("a."), api.Data{Names: []api.Name{name("a")}}},
		{api.NS, bareWords("@"), api.Data{Names: []api.Name{name("b")}}},
		{api.NS, bareWords("."), api.Data{Names: []api.Name{nil}}},
		{api.CNAME, bareWords(`Www.x\.y`), api.Data{Names: []api.Name{name("Www", "x.y", "b")}}},
		{api.PTR, bareWords(`\@.\065\#.`), api.Data{Names: []api.Name{name("@", "A#")}}},
		{api.PTR, bareWords("4"), api.Data{Names: []api.Name{name("4", "b")}}},
		{api.NS, bareWords("#"), api.Data{Names: []api.Name{name("#", "b")}}},
		{api.SOA, bareWords("ns", "h.x.", "1", "20", "4294967295", "0", "65536"), api.Data{Names: []api.Name{name("ns", "b"), name("h", "x")}, Nums: soa}},
		{api.MX, bareWords("0", "@"), api.Data{Nums: []uint32{0}, Names: []api.Name{name("b")}}},
		{api.MX, bareWords("65535", "."), api.Data{Nums: []uint32{65535}, Names: []api.Name{nil}}},
		{api.SRV, bareWords("1", "2", "3", "4"), api.Data{Nums: []uint32{1, 2, 3}, Names: []api.Name{name("4", "b")}}},
		{api.TXT, bareWords("a", `\"b\065`, ""), api.Data{Texts: []string{"a", `"bA`, ""}}},
		{api.TXT, []api.Term{quoted("a b"), quoted(""), {Text: "c"}, quoted(`\\\"`)}, api.Data{Texts: []string{"a b", "", "c", `\"`}}},
		{api.TXT, []api.Term{quoted(`\#`), {Text: "1"}, {Text: "00"}}, api.Data{Texts: []string{"#", "1", "00"}}},
		{api.TXT, bareWords("a", `\#`, "0"), api.Data{Texts: []string{"a", "#", "0"}}},
		{api.TXT, bareWords("#", "1", "00"), api.Data{Texts: []string{"#", "1", "00"}}},
		{api.TXT, bareWords(`\\#`), api.Data{Texts: []string{`\#`}}},
		{api.CAA, []api.Term{{Text: "0"}, {Text: "issue"}, quoted(`a\;b`)}, api.Data{Nums: []uint32{0}, Texts: []string{"issue", "a;b"}}},
		{api.CAA, []api.Term{{Text: "255"}, quoted("Issue9"), {Text: `\000`}}, api.Data{Nums: []uint32{255}, Texts: []string{"Issue9", "\x00"}}},
		{api.CAA, []api.Term{{Text: "7"}, {Text: "065"}, quoted("")}, api.Data{Nums: []uint32{7}, Texts: []string{"065", ""}}},
		{99, bareWords(`\#`, "2", "01fF"), raw(1, 255)},
		{99, bareWords(`\#`, "0"), api.Data{}},
		{99, bareWords(`\#`, "0", ""), api.Data{}},
		{99, bareWords(`\#`, "2", "", "0", "1f", "", "f"), raw(1, 255)},
		{99, []api.Term{{Text: `\#`}, {Text: "2"}, quoted("01"), quoted("ff")}, raw(1, 255)},
		{99, []api.Term{{Text: `\#`}, quoted("1"), {Text: "7f"}}, raw(127)},
		{api.OPT, bareWords(`\#`, "1", "aB"), raw(171)},
		{api.NS, bareWords(`\#`, "3", "014100"), api.Data{Names: []api.Name{name("A")}}},
		{api.NS, bareWords(`\#`, "1", "00"), api.Data{Names: []api.Name{nil}}},
		{api.MX, bareWords(`\#`, "5", "000a", "016100"), api.Data{Nums: []uint32{10}, Names: []api.Name{name("a")}}},
		{api.TXT, bareWords(`\#`, "1", "00"), api.Data{Texts: []string{""}}},
		{api.TXT, bareWords(`\#`, "3", "0161", "00"), api.Data{Texts: []string{"a", ""}}},
		{api.CAA, bareWords(`\#`, "4", "0001", "6178"), api.Data{Nums: []uint32{0}, Texts: []string{"a", "x"}}},
	} {
		check(t, x.t, x.words, name("b"), x.want, api.OK)
	}
}

func TestParseRefuses(t *testing.T) {
	q := quoted
	for _, x := range []struct {
		t     api.Type
		words []api.Term
	}{
		{api.A, bareWords("1.2.3")},
		{api.A, bareWords("01.2.3.4")},
		{api.A, bareWords("::1")},
		{api.A, bareWords(`\049.2.3.4`)},
		{api.A, bareWords(`\#`, "5", "0102", "0304")},
		{api.A, bareWords(`\#`, "3", "010203")},
		{api.A, bareWords(`\#`)},
		{api.AAAA, bareWords("1.2.3.4")},
		{api.AAAA, bareWords("1:2")},
		{api.NS, bareWords("")},
		{api.NS, bareWords("a..b")},
		{api.NS, bareWords(`\256`)},
		{api.NS, bareWords("a b")},
		{api.NS, bareWords(strings.Repeat("x", 64))},
		{api.NS, bareWords(`\#`, "0")},
		{api.NS, bareWords(`\#`, "2", "0161")},
		{api.NS, bareWords(`\#`, "4", "01610000")},
		{api.NS, bareWords(`\#`, "2", "c000")},
		{api.MX, bareWords("65536", "a")},
		{api.MX, bareWords("a", "10")},
		{api.SRV, bareWords("1", "2", "65536", "a")},
		{api.SOA, bareWords("1", "20", "4294967295", "0", "65536", "a", "b")},
		{api.TXT, bareWords(`\`)},
		{api.TXT, bareWords("a", `\25`)},
		{api.TXT, []api.Term{q(`\256`)}},
		{api.TXT, bareWords(strings.Repeat("x", 256))},
		{api.TXT, bareWords(slices.Repeat([]string{""}, 65536)...)},
		{api.TXT, bareWords(`\#`, "0")},
		{api.TXT, bareWords(`\#`, "2", "0261")},
		{api.CAA, bareWords("256", "issue", "x")},
		{api.CAA, bareWords("0", "is-sue", "x")},
		{api.CAA, bareWords("0", "", "x")},
		{api.CAA, bareWords("0", "abcdefghij123456", "x")},
		{api.CAA, bareWords("0", `\105ssue`, "x")},
		{api.CAA, bareWords("0", `\issue`, "x")},
		{api.CAA, bareWords("0", "issue", `\`)},
		{api.CAA, bareWords("0", "issue", strings.Repeat("x", 65529))},
		{99, bareWords("1.2.3.4")},
		{99, bareWords("a")},
		{99, bareWords("0")},
		{99, bareWords("")},
		{99, bareWords("#", "0")},
		{99, bareWords(`\\#`, "0")},
		{99, bareWords(`\035`, "0")},
		{99, []api.Term{q(`\#`), {Text: "0"}}},
		{99, bareWords(`\#`)},
		{99, bareWords(`\#`, "")},
		{99, bareWords(`\#`, "", "00")},
		{99, bareWords(`\#`, "01", "00")},
		{99, bareWords(`\#`, "00")},
		{99, bareWords(`\#`, "+1", "00")},
		{99, bareWords(`\#`, "-0")},
		{99, bareWords(`\#`, "0x1", "00")},
		{99, bareWords(`\#`, "1 ", "00")},
		{99, bareWords(`\#`, "1")},
		{99, bareWords(`\#`, "0", "00")},
		{99, bareWords(`\#`, "1", "0")},
		{99, bareWords(`\#`, "1", "000")},
		{99, bareWords(`\#`, "1", "0000")},
		{99, bareWords(`\#`, "2", "00")},
		{99, bareWords(`\#`, "1", "0g")},
		{99, bareWords(`\#`, "1", "0 ")},
		{99, bareWords(`\#`, "2", "00 00")},
		{99, bareWords(`\#`, "1", `\048`+"0")},
		{99, bareWords(`\#`, "1", "0x00")},
		{99, bareWords(`\#`, "4294967295", "00")},
		{99, bareWords(`\#`, "4294967296")},
		{99, bareWords(`\#`, "4294967297", "00")},
		{99, bareWords(`\#`, "18446744073709551616")},
		{99, bareWords(`\#`, "65536", strings.Repeat("00", 65536))},
		{99, bareWords("1", "00", `\#`)},
	} {
		refuse(t, x.t, x.words)
	}
}

// TestMarkInFront: words behind the mark are never read as a type's own, also where they could be.
func TestMarkInFront(t *testing.T) {
	refuse(t, api.NS, bareWords(`\#`))
	refuse(t, api.TXT, bareWords(`\#`))
	refuse(t, api.TXT, bareWords(`\#`, "a"))
	refuse(t, api.TXT, bareWords(`\#`, "2", "00"))
	refuse(t, api.SOA, bareWords(`\#`, "h", "1", "2", "3", "4", "5"))
}

// TestParseErrors: the origin's error stands ahead of the type's, that ahead of the words'.
func TestParseErrors(t *testing.T) {
	words := bareWords(`\#`, "0")
	for _, kind := range []api.Type{0, 99, 128, api.A, api.ANY} {
		for _, w := range [][]api.Term{words, nil, bareWords("x")} {
			check(t, kind, w, broken, api.Data{}, api.ErrLabel)
			check(t, kind, w, tooLong, api.Data{}, api.ErrName)
			check(t, kind, w, name(strings.Repeat("x", 64)), api.Data{}, api.ErrLabel)
		}
	}
	check(t, api.NS, bareWords("a."), broken, api.Data{}, api.ErrLabel)
	for _, kind := range none {
		check(t, kind, words, nil, api.Data{}, api.ErrType)
		check(t, kind, nil, nil, api.Data{}, api.ErrType)
		check(t, kind, bareWords("1.2.3.4"), nil, api.Data{}, api.ErrType)
	}
	for _, kind := range append(slices.Clone(own), bare...) {
		check(t, kind, nil, nil, api.Data{}, api.ErrData)
		check(t, kind, []api.Term{}, nil, api.Data{}, api.ErrData)
	}
}

func TestParseEachType(t *testing.T) {
	for n := range 65536 {
		kind := api.Type(n)
		want, e := raw(18, 52), api.OK
		switch {
		case n == 0 || n >= 128 && n <= 255:
			want, e = api.Data{}, api.ErrType
		case slices.Contains(own, kind):
			want, e = api.Data{}, api.ErrData
		}
		if got, e2 := rtext.Parse(kind, bareWords(`\#`, "2", "1234"), nil); e2 != e || !same(got, want) {
			t.Fatalf("Parse(%d) = %v, %v, not %v, %v", n, got, e2, want, e)
		}
	}
}

// TestParseNumbers: the forms of numbers, where each type has some.
func TestParseNumbers(t *testing.T) {
	forms := []struct {
		s    string
		n    uint32
		good bool
	}{
		{"0", 0, true}, {"1", 1, true}, {"9", 9, true}, {"10", 10, true}, {"255", 255, true}, {"256", 256, true}, {"65535", 65535, true}, {"65536", 65536, true},
		{"2147483648", 2147483648, true}, {"4294967295", 4294967295, true},
		{"4294967296", 0, false}, {"4294967297", 0, false}, {"42949672950", 0, false}, {"18446744073709551615", 0, false}, {"18446744073709551617", 0, false},
		{"00", 0, false}, {"01", 0, false}, {"007", 0, false}, {"0255", 0, false}, {"", 0, false}, {" 1", 0, false}, {"1 ", 0, false}, {"+1", 0, false}, {"-1", 0, false}, {"-0", 0, false},
		{"1_0", 0, false}, {"0x1", 0, false}, {"1e1", 0, false}, {"1.0", 0, false}, {"a", 0, false}, {"1a", 0, false}, {"١", 0, false}, {`\049`, 0, false}, {"1\x00", 0, false}, {strings.Repeat("1", 100000), 0, false},
	}
	for _, f := range forms {
		for at := range 5 {
			words := bareWords("a.", "b.", "1", "2", "3", "4", "5")
			words[2+at].Text = f.s
			want := api.Data{Names: []api.Name{name("a"), name("b")}, Nums: []uint32{1, 2, 3, 4, 5}}
			want.Nums[at] = f.n
			checkIf(t, f.good, api.SOA, words, want)
		}
		checkIf(t, f.good && f.n <= 65535, api.MX, bareWords(f.s, "a."), api.Data{Nums: []uint32{f.n}, Names: []api.Name{name("a")}})
		for at := range 3 {
			words := bareWords("1", "2", "3", "a.")
			words[at].Text = f.s
			want := api.Data{Nums: []uint32{1, 2, 3}, Names: []api.Name{name("a")}}
			want.Nums[at] = f.n
			checkIf(t, f.good && f.n <= 65535, api.SRV, words, want)
		}
		checkIf(t, f.good && f.n <= 255, api.CAA, bareWords(f.s, "issue", "x"), api.Data{Nums: []uint32{f.n}, Texts: []string{"issue", "x"}})
		if f.n <= 65535 {
			checkIf(t, f.good, 99, bareWords(`\#`, f.s, strings.Repeat("ab", int(f.n))), api.Data{Raw: []byte(strings.Repeat("\xab", int(f.n)))})
		}
	}
}

// checkIf wants data that are good, and ErrData of all others.
func checkIf(t *testing.T, good bool, kind api.Type, words []api.Term, want api.Data) {
	t.Helper()
	if good {
		check(t, kind, words, nil, want, api.OK)
	} else {
		check(t, kind, words, nil, api.Data{}, api.ErrData)
	}
}

// TestParseNames: each name of each type is relative to the origin, or whole.
func TestParseNames(t *testing.T) {
	ahead := map[api.Type][]string{api.NS: nil, api.CNAME: nil, api.PTR: nil, api.MX: {"1"}, api.SRV: {"1", "2", "3"}, api.SOA: nil}
	behind := map[api.Type][]string{api.SOA: {"1", "2", "3", "4", "5"}}
	texts := []string{"a", "a.", "@", ".", `a\.b`, `a\.b.`, `\@`, "*", "*.x", "", "..", "a..", ".a", "a.b.c", `\`, `\1`, `\256.`, "a b", "\xff", "(", strings.Repeat("y", 63), strings.Repeat("y", 64), "@.", "@a"}
	for kind, front := range ahead {
		for _, origin := range origins {
			for _, s := range texts {
				n, e := names.Relative(s, origin)
				good := e == api.OK
				if kind == api.SOA {
					checkNames(t, good, kind, append(bareWords(s, "z."), bareWords(behind[kind]...)...), origin, n, name("z"))
					checkNames(t, good, kind, append(bareWords("z.", s), bareWords(behind[kind]...)...), origin, name("z"), n)
				} else {
					checkNames(t, good, kind, bareWords(append(slices.Clone(front), s)...), origin, n)
				}
			}
		}
	}
}

func checkNames(t *testing.T, good bool, kind api.Type, words []api.Term, origin api.Name, want ...api.Name) {
	t.Helper()
	d, e := rtext.Parse(kind, words, origin)
	if !good {
		if e != api.ErrData || !empty(d) {
			t.Errorf("Parse(%d, %.80v, %.20q) = %v, %v", kind, words, origin, d, e)
		}
		return
	}
	if e != api.OK || !slices.EqualFunc(d.Names, want, func(x, y api.Name) bool { return slices.Equal(x, y) }) {
		t.Errorf("Parse(%d, %.80v, %.20q) = %v, %v, not %q", kind, words, origin, d, e, want)
	}
}

// TestQuotedWords: only texts may be quoted.
func TestQuotedWords(t *testing.T) {
	for _, x := range good {
		if !slices.Contains(own, x.t) {
			continue
		}
		words := terms(x.t, x.words)
		for i := range words {
			turned := slices.Clone(words)
			turned[i].Quoted = !turned[i].Quoted
			if x.t == api.TXT || x.t == api.CAA && i > 0 {
				check(t, x.t, turned, nil, x.d, api.OK)
			} else {
				refuse(t, x.t, turned)
			}
		}
	}
}

// TestWordCount: one word too few, one too many.
func TestWordCount(t *testing.T) {
	more := []api.Term{{}, {Text: "0"}, {Text: "a."}, {Text: "1.2.3.4"}, quoted(""), quoted("x"), {Text: `\#`}}
	for _, x := range good {
		words := terms(x.t, x.words)
		if x.t == api.TXT {
			refuse(t, x.t, nil)
			continue
		}
		for i := range words {
			refuse(t, x.t, slices.Delete(slices.Clone(words), i, i+1))
		}
		if !slices.Contains(own, x.t) {
			continue
		}
		for _, w := range more {
			refuse(t, x.t, append(slices.Clone(words), w))
			refuse(t, x.t, append([]api.Term{w}, words...))
		}
	}
}

// followWords: data are read of their own words, and by their bytes, whatever the origin.
func followWords(t *testing.T, kind api.Type, d api.Data) {
	t.Helper()
	words, e := rtext.Words(kind, d)
	if e != api.OK {
		t.Fatalf("Words(%d, %v): %v", kind, d, e)
	}
	for _, origin := range origins {
		check(t, kind, terms(kind, words), origin, d, api.OK)
		check(t, kind, byBytes(t, kind, d), origin, d, api.OK)
	}
}

func TestParseOfWords(t *testing.T) {
	for _, x := range good {
		followWords(t, x.t, x.d)
	}
	r := rand.New(rand.NewSource(9))
	kinds := append(slices.Clone(own), bare...)
	for i := range 10000 {
		kind := kinds[i%len(kinds)]
		followWords(t, kind, random(r, kind))
	}
}

// random tells data of a type that may be.
func random(r *rand.Rand, kind api.Type) api.Data {
	some := func(most int) string {
		b := make([]byte, r.Intn(most+1))
		for i := range b {
			b[i] = byte(r.Intn(256))
			if r.Intn(2) == 0 {
				b[i] = "\\\"#.@ 0259;"[r.Intn(11)]
			}
		}
		return string(b)
	}
	label := func() string { return "#@x\\."[r.Intn(5):][:1] + some(20) }
	names := func(count int) []api.Name {
		var l []api.Name
		for range count {
			var n api.Name
			for range r.Intn(5) {
				n = append(n, label())
			}
			l = append(l, n)
		}
		return l
	}
	nums := func(count, bits int) []uint32 {
		var l []uint32
		for range count {
			l = append(l, r.Uint32()>>(32-bits)>>r.Intn(bits))
		}
		return l
	}
	switch kind {
	case api.A:
		return raw(byte(r.Intn(256)), byte(r.Intn(2)), byte(r.Intn(256)), byte(r.Intn(256)))
	case api.AAAA:
		return api.Data{Raw: eight(r.Intn(65536)*r.Intn(2), r.Intn(2), r.Intn(300)*r.Intn(2), r.Intn(2), r.Intn(2), r.Intn(2), r.Intn(2), r.Intn(65536)*r.Intn(2))}
	case api.NS, api.CNAME, api.PTR:
		return api.Data{Names: names(1)}
	case api.SOA:
		return api.Data{Names: names(2), Nums: nums(5, 32)}
	case api.MX:
		return api.Data{Nums: nums(1, 16), Names: names(1)}
	case api.SRV:
		return api.Data{Nums: nums(3, 16), Names: names(1)}
	case api.TXT:
		l := []string{some(30)}
		for range r.Intn(4) {
			l = append(l, some(255))
		}
		return api.Data{Texts: l}
	case api.CAA:
		return api.Data{Nums: nums(1, 8), Texts: []string{"aZ09issue"[r.Intn(9):], some(60)}}
	}
	return api.Data{Raw: []byte(some(40))}
}

// TestParseByBytes: of all types, the digits great or small, in how many words ever; not more, not fewer than the number says.
func TestParseByBytes(t *testing.T) {
	r := rand.New(rand.NewSource(10))
	for _, x := range good[:len(good)-1] {
		b, _ := rdata.Bytes(x.t, x.d)
		text := hex.EncodeToString(b)
		number := digits(len(b))
		for range 10 {
			words := bareWords(`\#`, number)
			for left := text; left != ""; {
				n := r.Intn(len(left) + 1)
				words = append(words, api.Term{Text: left[:n], Quoted: r.Intn(2) == 0})
				left = left[n:]
			}
			check(t, x.t, words, nil, x.d, api.OK)
		}
		check(t, x.t, bareWords(`\#`, number, strings.ToUpper(text)), nil, x.d, api.OK)
		check(t, x.t, []api.Term{{Text: `\#`}, quoted(number), quoted(text)}, nil, x.d, api.OK)
		refuse(t, x.t, bareWords(`\#`, digits(len(b)+1), text))
		refuse(t, x.t, bareWords(`\#`, digits(len(b)-1), text))
		refuse(t, x.t, bareWords(`\#`, number, text, "0"))
		refuse(t, x.t, bareWords(`\#`, number, text, "00"))
		refuse(t, x.t, bareWords(`\#`, number, text+"g"))
		refuse(t, x.t, bareWords(`\#`, "0"+number, text))
		if text != "" {
			refuse(t, x.t, bareWords(`\#`, number, text[1:]))
			refuse(t, x.t, bareWords(`\#`, number, "g"+text[1:]))
			refuse(t, x.t, bareWords(`\#`, number, text[2:]))
		}
		if x.t != api.TXT {
			refuse(t, x.t, []api.Term{quoted(`\#`), {Text: number}, {Text: text}})
		}
	}
}

// forms tells the words of each type by letters: an address, a name, a number, a text as it stands, a text with escapes; a star: one or more of the last.
var forms = map[api.Type]string{
	api.A: "a", api.AAAA: "a", api.NS: "n", api.CNAME: "n", api.PTR: "n", api.SOA: "nnuuuuu", api.MX: "un", api.SRV: "uuun", api.TXT: "s*", api.CAA: "uts",
}

var aNumber = regexp.MustCompile(`^(0|[1-9][0-9]*)$`)

func numberOf(s string) (uint32, bool) {
	n, ok := new(big.Int).SetString(s, 10)
	if !ok || !aNumber.MatchString(s) || n.BitLen() > 32 {
		return 0, false
	}
	return uint32(n.Uint64()), true
}

// readByForms reads words as the chapter's table says, letter by letter.
func readByForms(kind api.Type, words []api.Term, origin api.Name) (api.Data, bool) {
	var d api.Data
	if len(words) > 0 && words[0].Text == `\#` && !words[0].Quoted {
		all := ""
		for i := 2; i < len(words); i++ {
			all += words[i].Text
		}
		b, err := hex.DecodeString(all)
		if len(words) < 2 || err != nil || words[1].Text != digits(len(b)) {
			return d, false
		}
		d, e := rdata.Read(kind, b)
		return d, e == api.OK
	}
	form, ok := forms[kind]
	if f, many := strings.CutSuffix(form, "*"); many {
		form = f + strings.Repeat(f, max(0, len(words)-1))
	}
	if !ok || len(words) != len(form) {
		return d, false
	}
	for i, w := range words {
		if w.Quoted && !strings.Contains("ts", form[i:i+1]) {
			return d, false
		}
		e := api.OK
		switch form[i] {
		case 'a':
			d.Raw, e = rtext.ParseAddress(w.Text)
		case 'n':
			var n api.Name
			n, e = names.Relative(w.Text, origin)
			d.Names = append(d.Names, n)
		case 'u':
			n, isNumber := numberOf(w.Text)
			if !isNumber {
				return d, false
			}
			d.Nums = append(d.Nums, n)
		case 't':
			d.Texts = append(d.Texts, w.Text)
		case 's':
			var s string
			s, e = rtext.String(w.Text)
			d.Texts = append(d.Texts, s)
		}
		if e != api.OK {
			return d, false
		}
	}
	return d, rdata.Check(kind, d) == api.OK
}

// TestParseAnyWords: words of all kinds in any order, held against the table; what is read is read again of its own words.
func TestParseAnyWords(t *testing.T) {
	r := rand.New(rand.NewSource(11))
	pool := []string{"", "0", "1", "10", "255", "256", "65535", "65536", "4294967295", "4294967296", "01", "1.2.3.4", "1.2.3", "::1", "1::", "a", "a.", "@", ".", `\#`, `\#`, `\#`, "00", "0161", "016100", "000a016100", "0", "ff", `\065`, `\`, `\256`, "issue", "is-sue", "a b", "\xff"}
	kinds := append(append(slices.Clone(own), own...), bare...)
	for range 300000 {
		kind := kinds[r.Intn(len(kinds))]
		var words []api.Term
		count := r.Intn(5)
		if form := forms[kind]; r.Intn(3) > 0 {
			count = len(form)
		}
		for i := range count {
			w := pool[r.Intn(len(pool))]
			if form := forms[kind]; i < len(form) && r.Intn(3) > 0 {
				w = map[byte][]string{'a': {"1.2.3.4", "::"}, 'n': {"a", "x.", "@"}, 'u': {"7", "255", "300"}, 't': {"issue", "x9"}, 's': {"a", `\"`}, '*': {"", "b"}}[form[i]][r.Intn(2)]
			}
			words = append(words, api.Term{Text: w, Quoted: r.Intn(6) == 0})
		}
		origin := origins[r.Intn(3)]
		want, ok := readByForms(kind, words, origin)
		d, e := rtext.Parse(kind, words, origin)
		if ok != (e == api.OK) || ok && !same(d, want) || !ok && (e != api.ErrData || !empty(d)) {
			t.Fatalf("Parse(%d, %v, %q) = %v, %v, not %v, %v", kind, words, origin, d, e, want, ok)
		}
		if ok && r.Intn(20) == 0 {
			followWords(t, kind, d)
		}
	}
}

// TestParseMemory: what is read is new, what was handed in stays, the room behind it, too.
func TestParseMemory(t *testing.T) {
	for _, x := range good[:len(good)-1] {
		words := terms(x.t, x.words)
		room := append(slices.Clone(words), api.Term{Text: "spare"}, api.Term{Text: "more"})
		first, e := rtext.Parse(x.t, room[:len(words)], nil)
		if e != api.OK || !same(first, x.d) {
			t.Fatalf("Parse(%d, %v) = %v, %v", x.t, words, first, e)
		}
		if !slices.Equal(room[:len(words)], words) || room[len(words)].Text != "spare" || room[len(words)+1].Text != "more" {
			t.Errorf("Parse(%d) changed its words: %v", x.t, room)
		}
		spoil(first)
		check(t, x.t, words, nil, x.d, api.OK)
	}
	for _, s := range []string{"@", "x"} {
		origin := append(make(api.Name, 0, 8), "o", "p")
		d, e := rtext.Parse(api.SOA, bareWords(s, s, "1", "2", "3", "4", "5"), origin)
		if e != api.OK || len(d.Names) != 2 {
			t.Fatalf("Parse(SOA) = %v, %v", d, e)
		}
		second := slices.Clone(d.Names[1])
		for i := range d.Names[0][:cap(d.Names[0])] {
			d.Names[0][:cap(d.Names[0])][i] = "!"
		}
		if !slices.Equal(origin[:4], api.Name{"o", "p", "", ""}) || !slices.Equal(d.Names[1], second) {
			t.Errorf("names share memory: %q, %q", origin[:4], d.Names)
		}
		origin[0] = "?"
		if !slices.Equal(d.Names[1], second) {
			t.Errorf("a name changed with its origin: %q", d.Names[1])
		}
	}
}

// spoil writes over all memory of data.
func spoil(d api.Data) {
	for _, n := range d.Names[:cap(d.Names)] {
		for i := range n[:cap(n)] {
			n[:cap(n)][i] = "!"
		}
	}
	for i := range d.Nums[:cap(d.Nums)] {
		d.Nums[:cap(d.Nums)][i] = 77
	}
	for i := range d.Texts[:cap(d.Texts)] {
		d.Texts[:cap(d.Texts)][i] = "!"
	}
	for i := range d.Raw[:cap(d.Raw)] {
		d.Raw[:cap(d.Raw)][i] = 77
	}
}

// TestManyWords: lists far above what an entry has.
func TestManyWords(t *testing.T) {
	many := slices.Repeat([]api.Term{{Text: "00"}}, 70000)
	for _, kind := range []api.Type{api.A, api.NS, api.SOA, api.MX, api.CAA, api.TXT, 99} {
		refuse(t, kind, many)
	}
	words := append(bareWords(`\#`, "65535"), many[:65535]...)
	check(t, 99, words, nil, api.Data{Raw: make([]byte, 65535)}, api.OK)
	refuse(t, 99, append(bareWords(`\#`, "70000"), many...))
	check(t, api.TXT, bareWords(slices.Repeat([]string{""}, 65535)...), nil, api.Data{Texts: make([]string, 65535)}, api.OK)
	whole := strings.Repeat("x", 65528)
	check(t, api.CAA, bareWords("0", "issue", whole), nil, api.Data{Nums: []uint32{0}, Texts: []string{"issue", whole}}, api.OK)
}

func FuzzParse(f *testing.F) {
	for _, x := range good[:len(good)-1] {
		f.Add(uint16(x.t), strings.Join(x.words, "\n"), uint16(0), "b.")
	}
	f.Fuzz(func(t *testing.T, kind uint16, text string, quotes uint16, under string) {
		origin, _ := names.Parse(under)
		var words []api.Term
		for i, s := range strings.Split(text, "\n") {
			words = append(words, api.Term{Text: s, Quoted: quotes>>(i%16)&1 == 1})
		}
		d, e := rtext.Parse(api.Type(kind), words, origin)
		if kind == 0 || kind >= 128 && kind <= 255 {
			if e != api.ErrType || !empty(d) {
				t.Fatalf("Parse(%d, %v) = %v, %v", kind, words, d, e)
			}
			return
		}
		want, ok := readByForms(api.Type(kind), words, origin)
		if ok != (e == api.OK) || ok && !same(d, want) || !ok && (e != api.ErrData || !empty(d)) {
			t.Fatalf("Parse(%d, %v, %q) = %v, %v, not %v, %v", kind, words, origin, d, e, want, ok)
		}
		if ok {
			followWords(t, api.Type(kind), d)
		}
	})
}

package rtext_test

import (
	"bytes"
	"math"
	"slices"
	"strings"
	"testing"

	"nomenclator/api"
	"nomenclator/octet"
	"nomenclator/rdata"
	"nomenclator/rtext"
)

// own has each type of the table but the last line's; bare types of the last line, the edges among them; none types that have no data.
var (
	own  = []api.Type{api.A, api.NS, api.CNAME, api.SOA, api.PTR, api.MX, api.TXT, api.AAAA, api.SRV, api.CAA}
	bare = []api.Type{3, 4, 7, 11, 13, 14, 17, 27, 29, 32, 34, api.OPT, 99, 127, 256, 258, 32768, 65535}
	none = []api.Type{0, 128, 129, 200, 254, api.ANY}
)

func name(labels ...string) api.Name { return labels }

func raw(b ...byte) api.Data { return api.Data{Raw: b} }

// same tells whether two data are field by field the same, letter by letter.
func same(a, b api.Data) bool {
	return slices.EqualFunc(a.Names, b.Names, func(x, y api.Name) bool { return slices.Equal(x, y) }) && slices.Equal(a.Nums, b.Nums) && slices.Equal(a.Texts, b.Texts) && bytes.Equal(a.Raw, b.Raw)
}

func empty(d api.Data) bool { return same(d, api.Data{}) }

// good are data that may be, with their words.
var good = []struct {
	t     api.Type
	d     api.Data
	words []string
}{
	{api.A, raw(192, 0, 2, 1), []string{"192.0.2.1"}},
	{api.A, raw(0, 0, 0, 0), []string{"0.0.0.0"}},
	{api.A, raw(255, 10, 9, 100), []string{"255.10.9.100"}},
	{api.AAAA, raw(32, 1, 13, 184, 0, 0, 0, 0, 0, 0, 0, 0, 0, 0, 0, 1), []string{"2001:db8::1"}},
	{api.AAAA, raw(0, 0, 0, 0, 0, 0, 0, 0, 0, 0, 255, 255, 1, 2, 3, 4), []string{"::ffff:102:304"}},
	{api.NS, api.Data{Names: []api.Name{name("Ns", "b")}}, []string{"Ns.b."}},
	{api.NS, api.Data{Names: []api.Name{nil}}, []string{"."}},
	{api.CNAME, api.Data{Names: []api.Name{name("a.b", "@", "#", "\x00\xff ")}}, []string{`a\.b.\@.#.\000\255\032.`}},
	{api.PTR, api.Data{Names: []api.Name{name(`\`, "#")}}, []string{`\\.#.`}},
	{api.PTR, api.Data{Names: []api.Name{name("#")}}, []string{"#."}},
	{api.SOA, api.Data{Names: []api.Name{name("ns", "a"), name("h")}, Nums: []uint32{1, 2, 3, 4, 30}}, []string{"ns.a.", "h.", "1", "2", "3", "4", "30"}},
	{api.SOA, api.Data{Names: []api.Name{nil, nil}, Nums: []uint32{math.MaxUint32, 0, 65536, 10, 100}}, []string{".", ".", "4294967295", "0", "65536", "10", "100"}},
	{api.MX, api.Data{Nums: []uint32{10}, Names: []api.Name{name("mail", "b")}}, []string{"10", "mail.b."}},
	{api.MX, api.Data{Nums: []uint32{65535}, Names: []api.Name{nil}}, []string{"65535", "."}},
	{api.SRV, api.Data{Nums: []uint32{0, 5, 65535}, Names: []api.Name{name("s", "b")}}, []string{"0", "5", "65535", "s.b."}},
	{api.TXT, api.Data{Texts: []string{`a"b`}}, []string{`"a\"b"`}},
	{api.TXT, api.Data{Texts: []string{""}}, []string{`""`}},
	{api.TXT, api.Data{Texts: []string{"a b", "", `\#`, "0", "\x1f ~\x7f\xff"}}, []string{`"a b"`, `""`, `"\\#"`, `"0"`, `"\031 ~\127\255"`}},
	{api.CAA, api.Data{Nums: []uint32{0}, Texts: []string{"issue", "ca.b; x=y"}}, []string{"0", "issue", `"ca.b; x=y"`}},
	{api.CAA, api.Data{Nums: []uint32{255}, Texts: []string{"Z9", ""}}, []string{"255", "Z9", `""`}},
	{api.CAA, api.Data{Nums: []uint32{128}, Texts: []string{"0123456789azAZ0", "\"\\\n\x80"}}, []string{"128", "0123456789azAZ0", `"\"\\\010\128"`}},
	{99, raw(1, 255), []string{`\#`, "2", "01ff"}},
	{99, api.Data{}, []string{`\#`, "0"}},
	{99, raw(0), []string{`\#`, "1", "00"}},
	{api.OPT, raw(0, 3, 0, 0), []string{`\#`, "4", "00030000"}},
	{4, raw(), []string{`\#`, "0"}},
	{127, raw(10, 11, 12, 13, 14, 15, 16, 17, 18, 19), []string{`\#`, "10", "0a0b0c0d0e0f10111213"}},
	{256, raw(7), []string{`\#`, "1", "07"}},
	{65535, raw(171, 205, 239), []string{`\#`, "3", "abcdef"}},
	{300, api.Data{Raw: make([]byte, 65535)}, []string{`\#`, "65535", strings.Repeat("00", 65535)}},
}

func TestWords(t *testing.T) {
	for _, x := range good {
		words, e := rtext.Words(x.t, x.d)
		if e != api.OK || !slices.Equal(words, x.words) {
			t.Errorf("Words(%d, %v) = %q, %v, not %q", x.t, x.d, words, e, x.words)
		}
	}
}

func TestText(t *testing.T) {
	for _, x := range good {
		want := x.words[0]
		for _, w := range x.words[1:] {
			want = want + " " + w
		}
		if s, e := rtext.Text(x.t, x.d); e != api.OK || s != want {
			t.Errorf("Text(%d, %v) = %q, %v, not %q", x.t, x.d, s, e, want)
		}
	}
}

// TestTextExamples: the chapter's, letter by letter.
func TestTextExamples(t *testing.T) {
	for _, x := range []struct {
		t    api.Type
		d    api.Data
		want string
	}{
		{api.A, raw(192, 0, 2, 1), "192.0.2.1"},
		{api.AAAA, raw(32, 1, 13, 184, 0, 0, 0, 0, 0, 0, 0, 0, 0, 0, 0, 1), "2001:db8::1"},
		{api.MX, api.Data{Nums: []uint32{10}, Names: []api.Name{name("mail", "b")}}, "10 mail.b."},
		{api.SOA, api.Data{Names: []api.Name{name("a"), name("b")}, Nums: []uint32{1, 2, 3, 4, 5}}, "a. b. 1 2 3 4 5"},
		{api.TXT, api.Data{Texts: []string{`a"b`}}, `"a\"b"`},
		{api.TXT, api.Data{Texts: []string{"a", "b c"}}, `"a" "b c"`},
		{api.CAA, api.Data{Nums: []uint32{0}, Texts: []string{"issue", "x y"}}, `0 issue "x y"`},
		{99, raw(1, 255), `\# 2 01ff`},
		{99, api.Data{}, `\# 0`},
	} {
		if s, e := rtext.Text(x.t, x.d); e != api.OK || s != x.want {
			t.Errorf("Text(%d, %v) = %q, %v, not %q", x.t, x.d, s, e, x.want)
		}
	}
}

// TestEachType: types of the last line have their bytes told, all types that have no data are refused.
func TestEachType(t *testing.T) {
	for n := range 65536 {
		kind := api.Type(n)
		words, e := rtext.Words(kind, raw(18, 52))
		text, e2 := rtext.Text(kind, raw(18, 52))
		wantError := api.OK
		switch {
		case n == 0 || n >= 128 && n <= 255:
			wantError = api.ErrType
		case slices.Contains(own, kind):
			wantError = api.ErrData
		}
		want := []string{`\#`, "2", "1234"}
		if wantError != api.OK {
			want = nil
		}
		if e != wantError || e2 != wantError || !slices.Equal(words, want) || text != strings.Join(want, " ") {
			t.Fatalf("Words(%d, 18 52) = %q, %v; Text %q, %v, not %q, %v", n, words, e, text, e2, want, wantError)
		}
	}
}

func TestWordsRefused(t *testing.T) {
	long := name(strings.Repeat("a", 63), strings.Repeat("b", 63), strings.Repeat("c", 63), strings.Repeat("d", 62))
	for _, x := range []struct {
		t api.Type
		d api.Data
		e api.Errno
	}{
		{0, api.Data{}, api.ErrType},
		{128, api.Data{}, api.ErrType},
		{api.ANY, api.Data{Names: []api.Name{name("")}}, api.ErrType},
		{api.A, raw(1, 2, 3), api.ErrData},
		{api.A, raw(1, 2, 3, 4, 5), api.ErrData},
		{api.A, raw(make([]byte, 16)...), api.ErrData},
		{api.AAAA, raw(1, 2, 3, 4), api.ErrData},
		{api.NS, api.Data{}, api.ErrData},
		{api.NS, api.Data{Names: []api.Name{name("a"), name("b")}}, api.ErrData},
		{api.NS, api.Data{Names: []api.Name{name("a", "")}}, api.ErrLabel},
		{api.NS, api.Data{Names: []api.Name{long}}, api.ErrName},
		{api.NS, api.Data{Names: []api.Name{name("")}, Raw: []byte{1}}, api.ErrData},
		{api.SOA, api.Data{Names: []api.Name{name("a"), long}, Nums: []uint32{1, 2, 3, 4, 5}}, api.ErrName},
		{api.SOA, api.Data{Names: []api.Name{name("a"), name("b")}, Nums: []uint32{1, 2, 3, 4}}, api.ErrData},
		{api.MX, api.Data{Nums: []uint32{65536}, Names: []api.Name{nil}}, api.ErrData},
		{api.SRV, api.Data{Nums: []uint32{1, 2}, Names: []api.Name{nil}}, api.ErrData},
		{api.TXT, api.Data{}, api.ErrData},
		{api.TXT, api.Data{Texts: []string{strings.Repeat("x", 256)}}, api.ErrData},
		{api.TXT, api.Data{Texts: make([]string, 65536)}, api.ErrLong},
		{api.CAA, api.Data{Nums: []uint32{0}, Texts: []string{"is-sue", "x"}}, api.ErrData},
		{api.CAA, api.Data{Nums: []uint32{0}, Texts: []string{"issue"}}, api.ErrData},
		{api.CAA, api.Data{Nums: []uint32{256}, Texts: []string{"issue", "x"}}, api.ErrData},
		{99, api.Data{Texts: []string{"x"}}, api.ErrData},
		{99, api.Data{Raw: make([]byte, 65536)}, api.ErrLong},
	} {
		words, e := rtext.Words(x.t, x.d)
		text, e2 := rtext.Text(x.t, x.d)
		if e != x.e || len(words) != 0 || e2 != x.e || text != "" {
			t.Errorf("Words(%d) = %.40q, %v; Text %.40q, %v; not %v", x.t, words, e, text, e2, x.e)
		}
		if c := rdata.Check(x.t, x.d); c != x.e {
			t.Errorf("Check(%d) = %v, not %v", x.t, c, x.e)
		}
	}
}

// TestWordsMemory: what is told is new, what was handed in stays.
func TestWordsMemory(t *testing.T) {
	for _, x := range good[:len(good)-1] {
		d := rdata.Copy(x.d)
		d.Texts = append(d.Texts, "spare")[:len(d.Texts)]
		d.Nums = append(d.Nums, 77)[:len(d.Nums)]
		d.Raw = append(d.Raw, 77)[:len(d.Raw)]
		words, _ := rtext.Words(x.t, d)
		for i := range words[:cap(words)] {
			words[:cap(words)][i] = "!"
		}
		again, e := rtext.Words(x.t, d)
		if e != api.OK || !slices.Equal(again, x.words) || !same(d, x.d) {
			t.Errorf("Words(%d, %v) again = %q, %v", x.t, d, again, e)
		}
		if len(d.Texts) > 0 && d.Texts[:len(d.Texts)+1][len(d.Texts)] != "spare" {
			t.Errorf("Words(%d) wrote into spare room", x.t)
		}
	}
}

// terms are words as they are read again: the texts in quotes are quoted, and stand there without them.
func terms(kind api.Type, words []string) []api.Term {
	var l []api.Term
	for i, w := range words {
		if kind == api.TXT || kind == api.CAA && i == 2 {
			l = append(l, api.Term{Text: w[1 : len(w)-1], Quoted: true})
		} else {
			l = append(l, api.Term{Text: w})
		}
	}
	return l
}

// byBytes are the words that tell data of any type by their bytes.
func byBytes(t *testing.T, kind api.Type, d api.Data) []api.Term {
	t.Helper()
	b, e := rdata.Bytes(kind, d)
	if e != api.OK {
		t.Fatalf("Bytes(%d, %v): %v", kind, d, e)
	}
	l := bareWords(`\#`, digits(len(b)))
	if len(b) > 0 {
		l = append(l, api.Term{Text: octet.Hex(b)})
	}
	return l
}

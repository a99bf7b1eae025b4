package rtext_test

import (
	"math/rand"
	"strings"
	"testing"

	"nomenclator/api"
	"nomenclator/rtext"
)

func TestString(t *testing.T) {
	for _, x := range []struct{ s, want string }{
		{"", ""},
		{"a b", "a b"},
		{`\065\"`, `A"`},
		{`\\`, `\`},
		{`\\\\`, `\\`},
		{`\\065`, `\065`},
		{`\000`, "\x00"},
		{`\255`, "\xff"},
		{`\0651`, "A1"},
		{`\065\066`, "AB"},
		{`\a\.\;\ `, "a.; "},
		{"\\\n\\\x00\\\xff", "\n\x00\xff"},
		{"\x00\x1f\x7f\x80\xff\"", "\x00\x1f\x7f\x80\xff\""},
		{`"`, `"`},
		{`\é`, "é"},
		{`\:5`, ":5"},
		{`\/1`, "/1"},
		{"065", "065"},
	} {
		if s, e := rtext.String(x.s); e != api.OK || s != x.want {
			t.Errorf("String(%q) = %q, %v, not %q", x.s, s, e, x.want)
		}
	}
}

func TestStringRefuses(t *testing.T) {
	for _, s := range []string{`\`, `a\`, `\\\`, `\2`, `\25`, `\0`, `\00`, `\256`, `\260`, `\300`, `\999`, `\1a`, `\1a2`, `\12a`, `\12 `, `\1\1`, `\12\`, `\2 5`, `a\256b`, `\065\256`, `\1.5`, `\25é`, `\1_1`, `\1+1`, `\0x1`, `\00` + "\xff"} {
		if x, e := rtext.String(s); e != api.ErrData || x != "" {
			t.Errorf("String(%q) = %q, %v", s, x, e)
		}
	}
}

// TestStringsAsTheGrammar: all short texts of some bytes, of which those are read that are put together of what stands for a byte.
func TestStringsAsTheGrammar(t *testing.T) {
	const alphabet = "\\0256a\"\xff"
	const most = 5
	front := map[string]string{}
	for i := range len(alphabet) {
		c := alphabet[i : i+1]
		if c != `\` {
			front[c] = c
		}
		if !strings.Contains("0256", c) {
			front[`\`+c] = c
		}
	}
	for n := range 256 {
		digits := string([]byte{'0' + byte(n/100), '0' + byte(n/10%10), '0' + byte(n%10)})
		if strings.Trim(digits, "0256") == "" {
			front[`\`+digits] = string([]byte{byte(n)})
		}
	}
	read := map[string]string{}
	var grow func(text, of string)
	grow = func(text, of string) {
		read[text] = of
		for f, c := range front {
			if len(text)+len(f) <= most {
				grow(text+f, of+c)
			}
		}
	}
	grow("", "")
	var all func(s string)
	all = func(s string) {
		want, ok := read[s]
		got, e := rtext.String(s)
		if ok != (e == api.OK) || !ok && e != api.ErrData || got != want {
			t.Fatalf("String(%q) = %q, %v, not %q, %v", s, got, e, want, ok)
		}
		for i := 0; i < len(alphabet) && len(s) < most; i++ {
			all(s + alphabet[i:i+1])
		}
	}
	all("")
}

// TestStringOfEachEscape: each number of three digits, and each byte behind a backslash.
func TestStringOfEachEscape(t *testing.T) {
	for n := range 1000 {
		digits := string([]byte{'0' + byte(n/100), '0' + byte(n/10%10), '0' + byte(n%10)})
		s, e := rtext.String("x\\" + digits + "y")
		if n > 255 && (e != api.ErrData || s != "") || n <= 255 && (e != api.OK || s != "x"+string([]byte{byte(n)})+"y") {
			t.Errorf("String of \\%s = %q, %v", digits, s, e)
		}
	}
	for n := range 256 {
		c := string([]byte{byte(n)})
		s, e := rtext.String("\\" + c)
		if isDigit := c >= "0" && c <= "9"; isDigit && (e != api.ErrData || s != "") || !isDigit && (e != api.OK || s != c) {
			t.Errorf("String of a backslash and %d = %q, %v", n, s, e)
		}
	}
}

func TestQuote(t *testing.T) {
	for _, x := range []struct{ s, want string }{
		{"", `""`},
		{"a b", `"a b"`},
		{`a"b`, `"a\"b"`},
		{`\`, `"\\"`},
		{`"`, `"\""`},
		{`\"`, `"\\\""`},
		{`\065`, `"\\065"`},
		{"\x1f \x7e\x7f\xff\x00", `"\031 ~\127\255\000"`},
		{"\t\n\r", `"\009\010\013"`},
		{"é", `"\195\169"`},
		{";()@$.", `";()@$."`},
	} {
		if s := rtext.Quote(x.s); s != x.want {
			t.Errorf("Quote(%q) = %s, not %s", x.s, s, x.want)
		}
	}
}

// TestQuoteOfEachByte: just the bytes that the chapter names are written otherwise than as they are.
func TestQuoteOfEachByte(t *testing.T) {
	for n := range 256 {
		c := string([]byte{byte(n)})
		want := c
		switch {
		case n == 34 || n == 92:
			want = `\` + c
		case n < 32 || n > 126:
			want = `\` + string([]byte{'0' + byte(n/100), '0' + byte(n/10%10), '0' + byte(n%10)})
		}
		if s := rtext.Quote("x" + c + "1"); s != `"x`+want+`1"` {
			t.Errorf("Quote of the byte %d = %s", n, s)
		}
	}
}

// checkQuoted holds what is told of a text in quotes against what is read of it, and against what a master file may have there.
func checkQuoted(t *testing.T, s string) {
	t.Helper()
	q := rtext.Quote(s)
	if len(q) < 2 || q[0] != '"' || q[len(q)-1] != '"' {
		t.Fatalf("Quote(%q) = %s", s, q)
	}
	inner := q[1 : len(q)-1]
	for i := 0; i < len(inner); i++ {
		switch c := inner[i]; {
		case c < 32 || c > 126 || c == '"':
			t.Fatalf("Quote(%q) = %s has a byte %d", s, q, c)
		case c == '\\':
			i++
		}
	}
	if got, e := rtext.String(inner); e != api.OK || got != s {
		t.Fatalf("String(%q) = %q, %v, not %q", inner, got, e, s)
	}
}

func TestStringOfQuote(t *testing.T) {
	r := rand.New(rand.NewSource(8))
	for range 20000 {
		b := make([]byte, r.Intn(20))
		for i := range b {
			b[i] = byte(r.Intn(256))
			if r.Intn(2) == 0 {
				b[i] = "\\\"0259a;"[r.Intn(8)]
			}
		}
		checkQuoted(t, string(b))
	}
	checkQuoted(t, strings.Repeat("\\\"\xff", 50000))
}

func TestLongStrings(t *testing.T) {
	for _, unit := range []string{`\255`, `\"`, "x"} {
		want, _ := rtext.String(unit)
		s, e := rtext.String(strings.Repeat(unit, 300000))
		if e != api.OK || s != strings.Repeat(want, 300000) {
			t.Errorf("String of many %s: %d bytes, %v", unit, len(s), e)
		}
		if s, e := rtext.String(strings.Repeat(unit, 300000) + `\`); e != api.ErrData || s != "" {
			t.Errorf("String of many %s and a backslash: %d bytes, %v", unit, len(s), e)
		}
	}
}

func FuzzQuote(f *testing.F) {
	f.Add("")
	f.Add(`a"b\065`)
	f.Add("\x00\xff")
	f.Fuzz(func(t *testing.T, s string) {
		checkQuoted(t, s)
		if got, e := rtext.String(s); e == api.OK {
			checkQuoted(t, got)
		} else if e != api.ErrData || got != "" {
			t.Fatalf("String(%q) = %q, %v", s, got, e)
		}
	})
}

package label_test

import (
	"fmt"
	"math/rand"
	"regexp"
	"strconv"
	"strings"
	"testing"

	"nomenclator/api"
	"nomenclator/label"
)

// P2.2: Text.

func TestText(t *testing.T) {
	for s, want := range map[string]string{
		"": "", "a.b": `a\.b`, " ": `\032`, "é": `\195\169`, "\x00": `\000`, "\x07": `\007`, "\x1f": `\031`, "!": "!", "~": "~", "\x7f": `\127`, "\x80": `\128`, "\xff": `\255`,
		`.\";()@$`: `\.\\\"\;\(\)\@\$`, "a-1_*": "a-1_*", "WwW": "WwW", "#%&'+,/:<=>?[]^`{|}": "#%&'+,/:<=>?[]^`{|}", "\t\n": `\009\010`, "..": `\.\.`,
	} {
		if got := label.Text(s); got != want {
			t.Errorf("Text(%q) = %q", s, got)
		}
	}
}

// textOf is the text of a byte, by the document's words.
func textOf(c byte) string {
	switch {
	case strings.IndexByte(`.\";()@$`, c) >= 0:
		return `\` + string(rune(c))
	case 33 <= c && c <= 126:
		return string(rune(c))
	}
	return fmt.Sprintf(`\%03d`, c)
}

func TestTextOfEachByte(t *testing.T) {
	all, want := "", ""
	for c := range 256 {
		s := string([]byte{byte(c)})
		if got := label.Text(s); got != textOf(byte(c)) {
			t.Errorf("Text of the byte %d = %q", c, got)
		}
		all, want = all+s, want+textOf(byte(c))
	}
	if got := label.Text(all); got != want {
		t.Errorf("Text of all bytes, which are no label = %q", got)
	}
}

// P2.2: Parse.

func TestParse(t *testing.T) {
	long := strings.Repeat("a", 63)
	for _, c := range []struct {
		s, want string
		n       int
	}{
		{"ab.c", "ab", 2}, {"ab.", "ab", 2}, {"ab", "ab", 2}, {"ab..", "ab", 2}, {"a. ", "a", 1}, {`a.\`, "a", 1}, {"a.\xff", "a", 1},
		{`a\.b`, "a.b", 4}, {`a\.b.c`, "a.b", 4}, {`\.`, ".", 2}, {`\..`, ".", 2}, {`\\`, `\`, 2}, {`\\.a`, `\`, 2}, {`\\\.`, `\.`, 4}, {`a\\.b`, `a\`, 3},
		{`\065`, "A", 4}, {`\000`, "\x00", 4}, {`\255`, "\xff", 4}, {`\046`, ".", 4}, {`\046.a`, ".", 4}, {`\0651`, "A1", 5}, {`\092.`, `\`, 4}, {`\199`, "\xc7", 4}, {`\249`, "\xf9", 4}, {`\250`, "\xfa", 4},
		{`\a`, "a", 2}, {`\A`, "A", 2}, {`\!`, "!", 2}, {`\~`, "~", 2}, {`\/`, "/", 2}, {`\:`, ":", 2}, {`\"x`, `"x`, 3},
		{`";()@$`, `";()@$`, 6}, {"!~", "!~", 2}, {"*", "*", 1}, {"1a", "1a", 2}, {"Ab", "Ab", 2},
		{long, long, 63}, {long + ".", long, 63}, {strings.Repeat(`\065`, 63), strings.Repeat("A", 63), 252}, {strings.Repeat(`\.`, 63) + ".x", strings.Repeat(".", 63), 126},
	} {
		if got, n, e := label.Parse(c.s); got != c.want || n != c.n || e != api.OK {
			t.Errorf("Parse(%q) = %q, %d, %d", c.s, got, n, e)
		}
	}
}

func TestParseRefuses(t *testing.T) {
	long := strings.Repeat("a", 64)
	for s, want := range map[string]api.Errno{
		"": api.ErrLabel, ".": api.ErrLabel, ".a": api.ErrLabel, "..": api.ErrLabel, ". ": api.ErrLabel, `.\`: api.ErrLabel,
		long: api.ErrLabel, long + ".": api.ErrLabel, long + `.\`: api.ErrLabel, strings.Repeat(`\065`, 64): api.ErrLabel, strings.Repeat("a", 70000): api.ErrLabel,
		" ": api.ErrEscape, "a ": api.ErrEscape, " a": api.ErrEscape, "\x00": api.ErrEscape, "a\x1f": api.ErrEscape, "\x7f": api.ErrEscape, "\x80": api.ErrEscape, "\xff": api.ErrEscape, "é": api.ErrEscape, "a\t.b": api.ErrEscape, "a\n": api.ErrEscape,
		`\`: api.ErrEscape, `a\`: api.ErrEscape, `\\\`: api.ErrEscape, `\ `: api.ErrEscape, "\\\x7f": api.ErrEscape, "\\\x1f": api.ErrEscape, "\\\xe9": api.ErrEscape, "\\\x00": api.ErrEscape,
		`\1`: api.ErrEscape, `\12`: api.ErrEscape, `\1a`: api.ErrEscape, `\12a`: api.ErrEscape, `\1a2`: api.ErrEscape, `\1.`: api.ErrEscape, `\12.`: api.ErrEscape, `\1.2`: api.ErrEscape, `\25/`: api.ErrEscape, `\25:`: api.ErrEscape, `\2/5`: api.ErrEscape, `\2:5`: api.ErrEscape, `\1\2`: api.ErrEscape, `a\1`: api.ErrEscape,
		`\256`: api.ErrEscape, `\260`: api.ErrEscape, `\300`: api.ErrEscape, `\999`: api.ErrEscape, `\512`: api.ErrEscape, `a\256.b`: api.ErrEscape,
		long + " ": api.ErrEscape, long + `\`: api.ErrEscape, long + `\256.`: api.ErrEscape, strings.Repeat("a", 70000) + " ": api.ErrEscape,
	} {
		if got, n, e := label.Parse(s); got != "" || n != 0 || e != want {
			t.Errorf("Parse(%q) = %q, %d, %d", s, got, n, e)
		}
	}
}

func TestParseEachByte(t *testing.T) {
	for c := range 256 {
		s := string([]byte{byte(c)})
		seen := 33 <= c && c <= 126
		want, n, e := s, 1, api.OK
		switch {
		case s == ".":
			want, n, e = "", 0, api.ErrLabel
		case s == `\` || !seen:
			want, n, e = "", 0, api.ErrEscape
		}
		if gs, gn, ge := label.Parse(s); gs != want || gn != n || ge != e {
			t.Errorf("Parse of the byte %d = %q, %d, %d", c, gs, gn, ge)
		}
		want, n, e = s, 2, api.OK
		if !seen || '0' <= c && c <= '9' {
			want, n, e = "", 0, api.ErrEscape
		}
		if gs, gn, ge := label.Parse(`\` + s); gs != want || gn != n || ge != e {
			t.Errorf("Parse of a backslash and the byte %d = %q, %d, %d", c, gs, gn, ge)
		}
	}
}

func TestParseEachNumber(t *testing.T) {
	for c := range 1000 {
		want, n, e := "", 0, api.ErrEscape
		if c < 256 {
			want, n, e = string([]byte{byte(c)}), 4, api.OK
		}
		s := fmt.Sprintf(`\%03d`, c)
		if gs, gn, ge := label.Parse(s); gs != want || gn != n || ge != e {
			t.Errorf("Parse(%q) = %q, %d, %d", s, gs, gn, ge)
		}
	}
}

// The grammar of the chapter, as patterns: one part of a label, and what may stand ahead of a label's end.
var (
	part  = regexp.MustCompile(`^(?s:[!-\-/-\[\]-~]|\\[0-9]{3}|\\[!-/:-~])`)
	three = regexp.MustCompile(`^\\([0-9]{3})$`)
)

// read is Parse, told by the patterns.
func read(s string) (string, int, api.Errno) {
	var b []byte
	at := 0
	for at < len(s) && s[at] != '.' {
		p := part.FindString(s[at:])
		if p == "" {
			return "", 0, api.ErrEscape
		}
		c := p[len(p)-1]
		if m := three.FindStringSubmatch(p); m != nil {
			n, err := strconv.ParseUint(m[1], 10, 8)
			if err != nil {
				return "", 0, api.ErrEscape
			}
			c = byte(n)
		}
		b = append(b, c)
		at += len(p)
	}
	if len(b) == 0 || len(b) > 63 {
		return "", 0, api.ErrLabel
	}
	return string(b), at, api.OK
}

func TestParseAsTheGrammar(t *testing.T) {
	r := rand.New(rand.NewSource(2))
	alphabets := []string{`a\.1`, `\0123456789`, "ab.\\\"2 5\x7f", "\\aZ1.*@;\x00\xff"}
	for i := range 200000 {
		a := alphabets[i%len(alphabets)]
		b := make([]byte, r.Intn(12))
		for j := range b {
			b[j] = a[r.Intn(len(a))]
		}
		s := string(b)
		gs, gn, ge := label.Parse(s)
		if ws, wn, we := read(s); gs != ws || gn != wn || ge != we {
			t.Fatalf("Parse(%q) = %q, %d, %d, not %q, %d, %d", s, gs, gn, ge, ws, wn, we)
		}
	}
}

// P2.3: a label's text is read again as the label, whatever stands behind a dot.

func TestParseOfText(t *testing.T) {
	r := rand.New(rand.NewSource(3))
	l := samples()
	for range 5000 {
		b := make([]byte, 1+r.Intn(63))
		for i := range b {
			b[i] = byte(r.Intn(256))
		}
		l = append(l, string(b))
	}
	for _, s := range l {
		if label.Check(s) != api.OK {
			continue
		}
		text := label.Text(s)
		for _, tail := range []string{"", ".", "..", ".a", ". ", `.\`, ".\xff", "." + text} {
			if got, n, e := label.Parse(text + tail); got != s || n != len(text) || e != api.OK {
				t.Fatalf("Parse of %q and %q = %q, %d, %d", text, tail, got, n, e)
			}
		}
	}
}

// P1: the same call answers the same, whatever was called between.

func TestParseKeepsNothing(t *testing.T) {
	for range 3 {
		if s, n, e := label.Parse(`a\256`); s != "" || n != 0 || e != api.ErrEscape {
			t.Errorf("%q, %d, %d", s, n, e)
		}
		if s, n, e := label.Parse(`a\255.`); s != "a\xff" || n != 5 || e != api.OK {
			t.Errorf("%q, %d, %d", s, n, e)
		}
	}
}

func FuzzParse(f *testing.F) {
	for _, s := range []string{"", "a", ".", `\`, `\1`, `\255`, `\256`, `a\.b.c`, " ", "\xff"} {
		f.Add(s)
	}
	f.Fuzz(func(t *testing.T, s string) {
		gs, gn, ge := label.Parse(s)
		if ws, wn, we := read(s); gs != ws || gn != wn || ge != we {
			t.Fatalf("Parse(%q) = %q, %d, %d, not %q, %d, %d", s, gs, gn, ge, ws, wn, we)
		}
	})
}

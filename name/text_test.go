package name_test

import (
	"fmt"
	"math/rand"
	"regexp"
	"slices"
	"strconv"
	"strings"
	"testing"

	"nomenclator/api"
	"nomenclator/name"
)

// P3.3: Text.

func TestText(t *testing.T) {
	long := strings.Repeat("a", 63)
	for _, c := range []struct {
		n    api.Name
		want string
	}{
		{nil, "."}, {api.Name{}, "."}, {api.Name{"a"}, "a."}, {api.Name{"a", "b"}, "a.b."}, {api.Name{"WwW", "B"}, "WwW.B."}, {api.Name{"*", "b"}, "*.b."},
		{api.Name{"a.b", "c"}, `a\.b.c.`}, {api.Name{"."}, `\..`}, {api.Name{"@"}, `\@.`}, {api.Name{`\`}, `\\.`}, {api.Name{" ", "é"}, `\032.\195\169.`}, {api.Name{`";()$`}, `\"\;\(\)\$.`}, {api.Name{long}, long + "."},
		{many("a", 127), strings.Repeat("a.", 127)}, {sized("\xff", 255), strings.Repeat(strings.Repeat(`\255`, 63)+".", 3) + strings.Repeat(`\255`, 61) + "."},
	} {
		if got, e := name.Text(c.n); got != c.want || e != api.OK {
			t.Errorf("Text(%q) = %q, %d", c.n, got, e)
		}
	}
	for _, n := range samples() {
		if got, e := name.Text(n); e != fault(n) || (e == api.OK) != (got != "") {
			t.Errorf("Text(%.300q) = %.300q, %d", n, got, e)
		}
	}
}

// P3.3: Parse.

// lines are texts of names of labels of one kind, of just that size.
func lines(letter string, size int) string {
	return strings.Join(sized(letter, size), ".") + "."
}

func TestParse(t *testing.T) {
	long := strings.Repeat("a", 63)
	for s, want := range map[string]api.Name{
		".": nil, "a.": {"a"}, "a.b.": {"a", "b"}, "A.b.C.": {"A", "b", "C"}, "*.b.": {"*", "b"}, "@.": {"@"}, `\@.`: {"@"}, "1.2.": {"1", "2"},
		`a\.b.`: {"a.b"}, `a\.b.c.`: {"a.b", "c"}, `\..`: {"."}, `\.\..`: {".."}, `\\.`: {`\`}, `\\.a.`: {`\`, "a"}, `a\\.`: {`a\`}, `\\\..`: {`\.`}, `\046.`: {"."}, `\046.\065.`: {".", "A"}, `\092.`: {`\`}, `\000.\255.`: {"\x00", "\xff"},
		long + ".": {long}, long + ".b.": {long, "b"}, strings.Repeat("a.", 127): many("a", 127), lines("a", 254): sized("a", 254), lines("a", 255): sized("a", 255), strings.Repeat(`\065.`, 127): many("A", 127),
	} {
		if got, e := name.Parse(s); !slices.Equal(got, want) || e != api.OK {
			t.Errorf("Parse(%q) = %q, %d", s, got, e)
		}
	}
}

func TestParseRefuses(t *testing.T) {
	long := strings.Repeat("a", 64)
	for s, want := range map[string]api.Errno{
		"": api.ErrLabel, "..": api.ErrLabel, ".a": api.ErrLabel, ".a.": api.ErrLabel, "a..": api.ErrLabel, "a..b.": api.ErrLabel, "a..b": api.ErrLabel, "...": api.ErrLabel, "a.b..": api.ErrLabel, long + ".": api.ErrLabel, long: api.ErrLabel, "a." + long + ".": api.ErrLabel, long + `.\.`: api.ErrLabel, `..\`: api.ErrLabel, "a.. ": api.ErrLabel,
		"a": api.ErrName, "a.b": api.ErrName, "@": api.ErrName, `\.`: api.ErrName, `a\.`: api.ErrName, `a.\.`: api.ErrName, `\\\.`: api.ErrName, `\046`: api.ErrName, lines("a", 256): api.ErrName, lines("a", 300): api.ErrName, strings.Repeat("a.", 128): api.ErrName, strings.Repeat("a.", 50000): api.ErrName, strings.Repeat("a.", 127) + "a": api.ErrName,
		" ": api.ErrEscape, "a .": api.ErrEscape, "a. ": api.ErrEscape, "a. .": api.ErrEscape, `\`: api.ErrEscape, `a.\`: api.ErrEscape, `a.b\`: api.ErrEscape, `\256.`: api.ErrEscape, `a.\1.`: api.ErrEscape, "é.": api.ErrEscape, "a.\x00.": api.ErrEscape, ". ": api.ErrLabel, " ..": api.ErrEscape,
		lines("a", 300) + " ": api.ErrEscape, lines("a", 300) + ".": api.ErrLabel, lines("a", 300) + long + ".": api.ErrLabel, strings.Repeat("a.", 50000) + `\`: api.ErrEscape,
	} {
		if got, e := name.Parse(s); len(got) != 0 || e != want {
			t.Errorf("Parse(%.300q) = %.300q, %d, not %d", s, got, e, want)
		}
	}
}

// part is one part of a label's text, as the chapter of labels says it.
var part = regexp.MustCompile(`^(?s:[!-\-/-\[\]-~]|\\[0-9]{3}|\\[!-/:-~])`)

// said is the byte that a part says, if any.
func said(p string) (byte, bool) {
	if len(p) < 4 {
		return p[len(p)-1], true
	}
	n, err := strconv.ParseUint(p[1:], 10, 8)
	return byte(n), err == nil
}

// read is a text's labels by the pattern, with whether a dot stands behind the last one.
func read(s string) (api.Name, bool, api.Errno) {
	n := api.Name{""}
	for s != "" {
		if s[0] != '.' {
			p := part.FindString(s)
			if p == "" {
				return nil, false, api.ErrEscape
			}
			c, ok := said(p)
			if !ok {
				return nil, false, api.ErrEscape
			}
			n[len(n)-1] += string([]byte{c})
			s = s[len(p):]
			continue
		}
		if fault(n[len(n)-1:]) != api.OK {
			return nil, false, api.ErrLabel
		}
		if s = s[1:]; s == "" {
			return n, true, api.OK
		}
		n = append(n, "")
	}
	if fault(n[len(n)-1:]) != api.OK {
		return nil, false, api.ErrLabel
	}
	return n, false, api.OK
}

// parsed is what Parse must answer.
func parsed(s string) (api.Name, api.Errno) {
	if s == "." {
		return nil, api.OK
	}
	n, whole, e := read(s)
	switch {
	case e != api.OK:
		return nil, e
	case !whole:
		return nil, api.ErrName
	case fault(n) != api.OK:
		return nil, fault(n)
	}
	return n, api.OK
}

// related is what Relative must answer.
func related(s string, origin api.Name) (api.Name, api.Errno) {
	if e := fault(origin); e != api.OK {
		return nil, e
	}
	if s == "@" {
		return origin, api.OK
	}
	if n, e := parsed(s); e == api.OK {
		return n, e
	}
	n, whole, e := read(s)
	if e != api.OK {
		return nil, e
	}
	if !whole {
		n = append(n, origin...)
	}
	if fault(n) != api.OK {
		return nil, fault(n)
	}
	return n, api.OK
}

// holds compares Parse and Relative with what they must answer.
func holds(t *testing.T, s string, origin api.Name) {
	t.Helper()
	want, f := parsed(s)
	if n, e := name.Parse(s); e != f || !slices.Equal(n, want) {
		t.Fatalf("Parse(%.300q) = %.300q, %d, not %.300q, %d", s, n, e, want, f)
	}
	want, f = related(s, origin)
	if n, e := name.Relative(s, origin); e != f || !slices.Equal(n, want) {
		t.Fatalf("Relative(%.300q, %.300q) = %.300q, %d, not %.300q, %d", s, origin, n, e, want, f)
	}
}

func TestTextsAsTheGrammar(t *testing.T) {
	r := rand.New(rand.NewSource(3))
	alphabets := []string{`a.`, `a\.`, `\.0125`, "ab.\\@2 5\x7f", "\\aZ1.*@;\x00\xff"}
	origins := samples()
	for i := range 200000 {
		a := alphabets[i%len(alphabets)]
		b := make([]byte, r.Intn(12))
		for j := range b {
			b[j] = a[r.Intn(len(a))]
		}
		holds(t, string(b), origins[r.Intn(len(origins))])
	}
	for range 5000 {
		var b strings.Builder
		for range r.Intn(300) {
			b.WriteString([]string{"a", "ab", "abcdefghij", `\.`, `\065`, `\\`, ".", ".", "..", " ", strings.Repeat("a", 63), strings.Repeat("a.", 60)}[min(r.Intn(12), r.Intn(12))])
		}
		holds(t, b.String(), origins[r.Intn(len(origins))])
	}
}

// P3.4: Relative.

func TestRelative(t *testing.T) {
	long := strings.Repeat("a", 63)
	for _, c := range []struct {
		s, origin string
		want      api.Name
	}{
		{"a", "b.", api.Name{"a", "b"}}, {"@", "b.", api.Name{"b"}}, {"a.", "b.", api.Name{"a"}}, {".", "b.", nil}, {"@", ".", nil}, {"a", ".", api.Name{"a"}}, {"a.b", "c.d.", api.Name{"a", "b", "c", "d"}}, {"A.b", "C.", api.Name{"A", "b", "C"}},
		{`\@`, "b.", api.Name{"@", "b"}}, {"@@", "b.", api.Name{"@@", "b"}}, {"@.", "b.", api.Name{"@"}}, {"a.@", "b.", api.Name{"a", "@", "b"}}, {"@.a", "b.", api.Name{"@", "a", "b"}}, {`\064`, "b.", api.Name{"@", "b"}},
		{`\.`, "b.", api.Name{".", "b"}}, {`a\.`, "b.", api.Name{"a.", "b"}}, {`a.\.`, "b.", api.Name{"a", ".", "b"}}, {`a\\.`, "b.", api.Name{`a\`}}, {`a\\`, "b.", api.Name{`a\`, "b"}}, {`a\\\.`, "b.", api.Name{`a\.`, "b"}}, {`a\046`, "b.", api.Name{"a.", "b"}}, {`a\092.`, "b.", api.Name{`a\`}},
		{"*", "b.", api.Name{"*", "b"}}, {long, "b.", api.Name{long, "b"}}, {"b", "b.", api.Name{"b", "b"}},
	} {
		if n, e := name.Relative(c.s, of(c.origin)); !slices.Equal(n, c.want) || e != api.OK {
			t.Errorf("Relative(%q, %s) = %q, %d", c.s, c.origin, n, e)
		}
	}
	for left, want := range map[int]api.Errno{252: api.OK, 253: api.OK, 254: api.ErrName, 255: api.ErrName} {
		if n, e := name.Relative("a", sized("b", left)); e != want || e == api.OK && len(n) != 1+len(sized("b", left)) || e != api.OK && len(n) != 0 {
			t.Errorf("Relative(a) under a name of the size %d = %q, %d", left, n, e)
		}
	}
	if n, e := name.Relative(strings.Repeat("a.", 127), sized("b", 255)); e != api.OK || !slices.Equal(n, many("a", 127)) {
		t.Errorf("a whole name under an origin = %q, %d", n, e)
	}
}

func TestRelativeRefuses(t *testing.T) {
	long := strings.Repeat("a", 64)
	for _, c := range []struct {
		s      string
		origin api.Name
		want   api.Errno
	}{
		{"", of("b."), api.ErrLabel}, {"", nil, api.ErrLabel}, {"..", of("b."), api.ErrLabel}, {".a", of("b."), api.ErrLabel}, {"a..", of("b."), api.ErrLabel}, {"a..b", of("b."), api.ErrLabel}, {long, of("b."), api.ErrLabel}, {"a." + long, of("b."), api.ErrLabel}, {long + ".", of("b."), api.ErrLabel},
		{" ", of("b."), api.ErrEscape}, {"a b", of("b."), api.ErrEscape}, {`a\`, of("b."), api.ErrEscape}, {`a.\256`, of("b."), api.ErrEscape}, {"a.é", of("b."), api.ErrEscape}, {"a. .", of("b."), api.ErrEscape}, {"@ ", of("b."), api.ErrEscape}, {" @", of("b."), api.ErrEscape},
		{lines("a", 256), of("b."), api.ErrName}, {strings.TrimSuffix(lines("a", 254), "."), of("b."), api.ErrName}, {strings.TrimSuffix(lines("a", 256), "."), nil, api.ErrName}, {strings.Repeat("a.", 50000) + "a", of("b."), api.ErrName},
		{lines("a", 254) + `a\\.`, of("b."), api.ErrName}, {lines("a", 254) + `a\.`, of("b."), api.ErrName}, {lines("a", 300) + " ", of("b."), api.ErrEscape},
		{"a", api.Name{""}, api.ErrLabel}, {"@", api.Name{long}, api.ErrLabel}, {"a.", api.Name{""}, api.ErrLabel}, {".", sized("b", 256), api.ErrName}, {"@", sized("b", 256), api.ErrName}, {" ", api.Name{""}, api.ErrLabel}, {" ", sized("b", 256), api.ErrName}, {"", sized("b", 256), api.ErrName},
	} {
		if n, e := name.Relative(c.s, c.origin); len(n) != 0 || e != c.want {
			t.Errorf("Relative(%.300q, %.300q) = %.300q, %d, not %d", c.s, c.origin, n, e, c.want)
		}
	}
}

// P3.6: Parse of Text, and Relative of Text under any origin, are the name.

// names are names that may be, of any bytes.
func names() []api.Name {
	var l []api.Name
	for _, n := range samples() {
		if fault(n) == api.OK {
			l = append(l, n)
		}
	}
	for c := range 256 {
		s := string([]byte{byte(c)})
		l = append(l, api.Name{s}, api.Name{"a" + s, s + "b"})
	}
	r := rand.New(rand.NewSource(4))
	for range 3000 {
		var n api.Name
		for room := r.Intn(255); room > 1; room = room - 1 - len(n[0]) {
			b := make([]byte, 1+r.Intn(min(63, room-1)))
			for i := range b {
				b[i] = byte(r.Intn(256))
			}
			n = append(api.Name{string(b)}, n...)
		}
		l = append(l, n)
	}
	return l
}

func TestParseOfText(t *testing.T) {
	for _, n := range names() {
		s, e := name.Text(n)
		if e != api.OK {
			t.Fatalf("Text(%q) = %d", n, e)
		}
		if got, e := name.Parse(s); e != api.OK || !slices.Equal(got, n) {
			t.Fatalf("Parse(%q) = %q, %d", s, got, e)
		}
		for _, origin := range []api.Name{nil, of("b."), {"."}, {"@"}, sized("x", 255)} {
			if got, e := name.Relative(s, origin); e != api.OK || !slices.Equal(got, n) {
				t.Fatalf("Relative(%q, %q) = %q, %d", s, origin, got, e)
			}
		}
	}
}

// P1: the same call answers the same, whatever was called between.

func TestTextsKeepNothing(t *testing.T) {
	for range 3 {
		var l []string
		for _, s := range []string{"a.", "", "a..", `\1`, "b", "@", "."} {
			n, e := name.Relative(s, of("c."))
			l = append(l, fmt.Sprint(n, int(e)))
		}
		if got := strings.Join(l, " "); got != "[a] 0 [] 4 [] 4 [] 120 [b c] 0 [c] 0 [] 0" {
			t.Error(got)
		}
	}
}

func FuzzRelative(f *testing.F) {
	for _, s := range []string{"", ".", "@", "a", "a.", "a..b", `a\.`, `a\\.`, `\1`, " ", strings.Repeat("a.", 128)} {
		f.Add(s)
	}
	f.Fuzz(func(t *testing.T, s string) {
		for _, origin := range []api.Name{nil, of("b."), sized("b", 250), {""}} {
			holds(t, s, origin)
		}
	})
}

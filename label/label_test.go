package label_test

import (
	"bytes"
	"strings"
	"testing"

	"nomenclator/api"
	"nomenclator/label"
)

// samples are texts at the edges: of none, of one byte, of 62 to 65 bytes, letters and the bytes beside them, bytes of no letter's.
func samples() []string {
	l := []string{"", "a", "A", "ab", "aB", "Ab", "AB", "abc", "b", "B", "*", "**", "a*", "-", "é", "É", "\x00", "\xff", "a\x00", "a\xff", "@", "[", "`", "{", "a@", "a[", "a`", "a{", "K", "ſ"}
	for _, n := range []int{62, 63, 64, 65} {
		l = append(l, strings.Repeat("a", n), strings.Repeat("Z", n), strings.Repeat(".", n), strings.Repeat("\xff", n))
	}
	for c := range 256 {
		l = append(l, string([]byte{byte(c)}))
	}
	return l
}

// low is a byte folded, told the long way.
func low(c byte) byte {
	if i := strings.IndexByte("ABCDEFGHIJKLMNOPQRSTUVWXYZ", c); i >= 0 {
		return "abcdefghijklmnopqrstuvwxyz"[i]
	}
	return c
}

// P2.1: Check.

func TestCheck(t *testing.T) {
	for n := range 300 {
		want := api.OK
		if n == 0 || n > 63 {
			want = api.ErrLabel
		}
		for _, c := range []string{"a", "\x00", ".", "\xff"} {
			if e := label.Check(strings.Repeat(c, n)); e != want {
				t.Errorf("Check of %d bytes %q = %d", n, c, e)
			}
		}
	}
	for c := range 256 {
		if e := label.Check(string([]byte{byte(c)})); e != api.OK {
			t.Errorf("Check of the byte %d = %d", c, e)
		}
	}
	if e := label.Check(strings.Repeat("é", 32)); e != api.ErrLabel {
		t.Errorf("Check counts bytes, not letters: %d", e)
	}
	if e := label.Check(strings.Repeat("a", 1<<20)); e != api.ErrLabel {
		t.Errorf("Check of a long text = %d", e)
	}
}

// P2.1: Fold.

func TestFoldEachByte(t *testing.T) {
	for c := range 256 {
		s := string([]byte{byte(c)})
		if f := label.Fold(s); f != string([]byte{low(byte(c))}) {
			t.Errorf("Fold of the byte %d = %q", c, f)
		}
	}
}

func TestFold(t *testing.T) {
	for s, want := range map[string]string{"": "", "A[z": "a[z", "@AZ[`az{": "@az[`az{", "WwW": "www", "É": "É", "A\x00B\xffC": "a\x00b\xffc", "a1-B2": "a1-b2"} {
		if f := label.Fold(s); f != want {
			t.Errorf("Fold(%q) = %q", s, f)
		}
	}
	long := strings.Repeat("aBcD", 1000)
	if f := label.Fold(long); f != strings.Repeat("abcd", 1000) {
		t.Error("Fold of a long text")
	}
}

// P2.1: Same, Compare.

func TestCompareExamples(t *testing.T) {
	for _, c := range []struct {
		a, b string
		want int
	}{
		{"aB", "Ab", 0}, {"a", "B", -1}, {"B", "a", 1}, {"a", "ab", -1}, {"AB", "a", 1}, {"", "", 0}, {"", "a", -1}, {"\x00", "", 1},
		{"Z", "[", 1}, {"[", "z", -1}, {"A", "_", 1}, {"z", "{", -1}, {"@", "A", -1}, {"`", "A", -1},
		{"a\xff", "b", -1}, {"\xff", "\x00", 1}, {"\x7f", "\x80", -1}, {"é", "É", 1}, {"aa", "B", -1}, {"ab", "aC", -1},
	} {
		if n := label.Compare(c.a, c.b); n != c.want {
			t.Errorf("Compare(%q, %q) = %d", c.a, c.b, n)
		}
		if n := label.Compare(c.b, c.a); n != -c.want {
			t.Errorf("Compare(%q, %q) = %d", c.b, c.a, n)
		}
		if s := label.Same(c.a, c.b); s != (c.want == 0) {
			t.Errorf("Same(%q, %q) = %t", c.a, c.b, s)
		}
	}
}

// order is the order of two labels, told byte by byte.
func order(a, b string) int {
	for i := 0; i < len(a) && i < len(b); i++ {
		if x, y := low(a[i]), low(b[i]); x < y {
			return -1
		} else if x > y {
			return 1
		}
	}
	return max(-1, min(1, len(a)-len(b)))
}

func TestCompareAll(t *testing.T) {
	l := samples()
	for _, a := range l {
		for _, b := range l {
			want := order(a, b)
			if n := label.Compare(a, b); n != want {
				t.Errorf("Compare(%q, %q) = %d", a, b, n)
			}
			if s := label.Same(a, b); s != (want == 0) {
				t.Errorf("Same(%q, %q) = %t", a, b, s)
			}
		}
	}
}

// P2.1: Star.

func TestStar(t *testing.T) {
	for _, s := range samples() {
		if star := label.Star(s); star != (s == "*") {
			t.Errorf("Star(%q) = %t", s, star)
		}
	}
	for _, s := range []string{"\\*", "* ", " *", "*.", "\\042", "*a"} {
		if label.Star(s) {
			t.Errorf("Star(%q)", s)
		}
	}
}

// P2.3: folding twice is folding once, and what is folded is the same as what was.

func TestFoldTwice(t *testing.T) {
	for _, s := range samples() {
		f := label.Fold(s)
		if label.Fold(f) != f || len(f) != len(s) || !label.Same(f, s) || label.Compare(s, f) != 0 {
			t.Errorf("Fold(%q) = %q", s, f)
		}
	}
}

// Rule 4: folding does not reach into what was handed in.

func TestFoldLeavesItsArgument(t *testing.T) {
	b := []byte("ABC")
	s := string(b)
	_ = label.Fold(s)
	if s != "ABC" || !bytes.Equal(b, []byte("ABC")) {
		t.Errorf("Fold changed %q, %q", s, b)
	}
}

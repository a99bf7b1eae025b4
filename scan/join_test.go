package scan_test

import (
	"slices"
	"strings"
	"testing"

	"nomenclator/api"
	"nomenclator/scan"
)

// joins tells whether the text of entries is this one.
func joins(t *testing.T, want string, l ...api.Entry) {
	t.Helper()
	if s, e := scan.Join(l); s != want || e != api.OK {
		t.Errorf("Join(%s) = %.200q, %d; want %.200q", brief(l), s, e, want)
	}
}

// joinsNot tells whether entries are refused so.
func joinsNot(t *testing.T, want api.Errno, l ...api.Entry) {
	t.Helper()
	if s, e := scan.Join(l); s != "" || e != want {
		t.Errorf("Join(%s) = %.200q, %d; want %d", brief(l), s, e, want)
	}
}

// P13.2: Join, of entries that may be.
func TestJoin(t *testing.T) {
	joins(t, "")
	joins(t, "a\n", entry(1, word("a")))
	joins(t, " a\n", blank(1, word("a")))
	joins(t, "a b\n c\n", entry(1, words("a", "b")...), blank(2, word("c")))
	joins(t, "a \"b;c\" \"\"\n", entry(1, word("a"), quoted("b;c"), quoted("")))
	joins(t, " \"a b\" c\n\"\"\n", blank(1, quoted("a b"), word("c")), entry(2, quoted("")))
	if s, e := scan.Join([]api.Entry{}); s != "" || e != api.OK {
		t.Errorf("Join of no entries = %q, %d", s, e)
	}
	// Which lines they say counts for nothing.
	for _, line := range []int{-1 << 63, -1, 0, 7, 1<<63 - 1} {
		joins(t, "a\nb\n", entry(line, word("a")), entry(line, word("b")))
	}
}

func TestJoinWordsThatStand(t *testing.T) {
	for _, s := range []string{"a", "@", "$ORIGIN", `\;`, `a\;b`, `\ `, `\"`, `\"a\"`, `a\"`, `\\`, `\(`, `\)`, "\\\t", "\x00", "\xff", "\x0b", `\000`, "a'b", "."} {
		joins(t, s+"\n", entry(1, word(s)))
		joins(t, " x "+s+" y\n", blank(1, words("x", s, "y")...))
		joins(t, "\""+s+"\"\n", entry(1, quoted(s)))
	}
	for _, s := range []string{"", ";", " ", "a b", "(", ")", "\t\r", `\"`, `a\\`} {
		joins(t, "\""+s+"\"\n", entry(1, quoted(s)))
		joins(t, " x \""+s+"\" y\n", blank(1, word("x"), quoted(s), word("y")))
	}
}

func TestJoinWordsThatStandNot(t *testing.T) {
	for _, w := range []api.Term{
		word(""), word(" "), word(" a"), word("a "), word("a b"), word("\t"), word("a\r"), word("\n"), word("a\n"), word("\na"), word("a\nb"),
		word(";"), word("a;"), word(";a"), word("a;b"), word("("), word(")"), word("(a)"), word("()"), word("a("), word("a()"), word("()a"),
		word(`"`), word(`"a"`), word(`""`), word(`"a`), word(`a"`), word(`a"b`), word(`a"b"`), word(`\`), word(`a\`), word(`\\\`), word("\\\n"), word(many(70)),
		quoted(`"`), quoted(`a"b`), quoted(`"a"`), quoted(`a" "b`), quoted(`a"("b`), quoted(`a" ;`), quoted(`a";`), quoted("a\"\n\"b"), quoted(`\`), quoted(`a\`), quoted(`\\\`), quoted("\n"), quoted("a\nb"), quoted("\\\n"), quoted(strings.Repeat(`" "`, 70)), quoted(`a"\`),
	} {
		joinsNot(t, api.ErrScan, entry(1, w))
		joinsNot(t, api.ErrScan, blank(1, word("x"), w))
		joinsNot(t, api.ErrScan, entry(1, w, word("x")))
		joinsNot(t, api.ErrScan, entry(1, word("x")), blank(2, quoted("y"), w, word("z")))
		joinsNot(t, api.ErrScan, entry(1, w), entry(2, word("x")))
	}
}

func TestJoinEntriesWithoutWords(t *testing.T) {
	joinsNot(t, api.ErrScan, entry(1))
	joinsNot(t, api.ErrScan, blank(1))
	joinsNot(t, api.ErrScan, api.Entry{Words: []api.Term{}})
	joinsNot(t, api.ErrScan, entry(1, word("a")), entry(2))
	joinsNot(t, api.ErrScan, entry(1), entry(2, word("a")))
	joinsNot(t, api.ErrScan, entry(1, word("a")), blank(2), entry(3, word("b")))
}

func TestJoinLongWords(t *testing.T) {
	long := func(size int) string { return strings.Repeat("a", size) }
	joins(t, long(65535)+"\n", entry(1, word(long(65535))))
	joins(t, " "+long(65534)+"\n", blank(1, word(long(65534))))
	joins(t, "\""+long(65533)+"\"\n", entry(1, quoted(long(65533))))
	// The word is not too long, but the text is.
	joinsNot(t, api.ErrLong, entry(1, word(long(65536))))
	joinsNot(t, api.ErrLong, blank(1, word(long(65535))))
	joinsNot(t, api.ErrLong, entry(1, quoted(long(65534))))
	joinsNot(t, api.ErrLong, entry(1, word(long(65537))))
	joinsNot(t, api.ErrLong, entry(1, quoted(long(65535))))
	joinsNot(t, api.ErrLong, entry(1, word(long(1<<20))))

	// Words that are too long are told ahead of those that could not stand; texts that are too long behind them.
	none := []api.Entry{entry(1), entry(1, word("")), entry(1, quoted(`"`)), blank(1, word("a;"))}
	for _, e := range none {
		for _, w := range []api.Term{word(long(65537)), quoted(long(65535)), word(strings.Repeat(";", 65537)), quoted(strings.Repeat(`"`, 65535))} {
			joinsNot(t, api.ErrLong, e, entry(2, w))
			joinsNot(t, api.ErrLong, entry(2, w), e)
		}
		for _, w := range []api.Term{word(long(65536)), quoted(long(65534))} {
			joinsNot(t, api.ErrScan, e, entry(2, w))
			joinsNot(t, api.ErrScan, entry(2, w), e)
		}
	}
	joinsNot(t, api.ErrScan, entry(1, word(strings.Repeat(";", 65536))))
	joinsNot(t, api.ErrLong, entry(1, word(strings.Repeat(";", 65537))))
	joinsNot(t, api.ErrScan, entry(1, quoted(strings.Repeat(`"`, 65534))))
	joinsNot(t, api.ErrLong, entry(1, quoted(strings.Repeat(`"`, 65535))))
	joinsNot(t, api.ErrLong, entry(1, word(""), quoted(long(65535))))
}

func TestJoinManyWords(t *testing.T) {
	l := slices.Repeat(words("a"), 64)
	joins(t, many(64)+"\n", blank(1, l...))
	joins(t, many(64)[1:]+"\n"+many(64)+"\n", entry(1, l...), blank(2, l...))
	more := append(l[:64:64], quoted(""))
	joinsNot(t, api.ErrLong, entry(1, more...))
	joinsNot(t, api.ErrLong, entry(1, word("a")), blank(2, more...))
	joinsNot(t, api.ErrLong, entry(1, slices.Repeat(words("a"), 70000)...))
	// They are told behind words that could not stand, in whichever entry.
	joinsNot(t, api.ErrScan, entry(1, more...), entry(2))
	joinsNot(t, api.ErrScan, entry(1), entry(2, more...))
	joinsNot(t, api.ErrScan, entry(1, more...), entry(2, word(`a"`)))
	joinsNot(t, api.ErrScan, entry(1, append(more[:65:65], word(""))...))
	joinsNot(t, api.ErrLong, entry(1, more...), entry(2, word(strings.Repeat(";", 65537))))
}

func TestJoinLongTexts(t *testing.T) {
	// 32,768 entries of two bytes each.
	l := slices.Repeat(list(entry(1, word("a"))), 32768)
	joins(t, strings.Repeat("a\n", 32768), l...)
	joinsNot(t, api.ErrLong, append(l[:32768:32768], entry(1, word("a")))...)
	l[9].Blank = true
	joinsNot(t, api.ErrLong, l...)
	l[9] = entry(1, words("a", "b")...)
	joinsNot(t, api.ErrLong, l...)
	l[9] = entry(1, word("ab"))
	joinsNot(t, api.ErrLong, l...)
	l[9] = entry(1, quoted(""))
	joinsNot(t, api.ErrLong, l...)
	joins(t, strings.Repeat("a\n", 9)+"\"\"\n"+strings.Repeat("a\n", 32757), l[:32767]...)
	l[20000] = entry(1, word(""))
	joinsNot(t, api.ErrScan, l...)
	joinsNot(t, api.ErrLong, slices.Repeat(list(entry(1, word(strings.Repeat("a", 60000)))), 1000)...)
	// 64 bytes an entry: a blank ahead of each word, and a byte 10 behind them.
	e := blank(1, slices.Repeat([]api.Term{quoted("abcdefg")}, 6)...)
	e.Words = append(e.Words, word("ab"))
	if s, _ := scan.Join(list(e)); len(s) != 64 {
		t.Fatalf("an entry of %d bytes", len(s))
	}
	full := slices.Repeat(list(e), 1024)
	if s, err := scan.Join(full); len(s) != 65536 || err != api.OK {
		t.Errorf("a full text has %d bytes, %d", len(s), err)
	}
	full[1023].Words = slices.Clone(e.Words)
	full[1023].Words[6] = word("abc")
	joinsNot(t, api.ErrLong, full...)
}

// P13.3.
func TestLines(t *testing.T) {
	for s, want := range map[string]int{
		"": 0, "a": 1, "a\n": 1, "a\nb": 2, "a\nb\n": 2, "\n": 1, "\n\n": 2, "\na": 2, "\r": 1, "\r\n": 1, "\n\r": 2, "\r\r": 1, " ": 1, ";": 1, "a\n ": 2, "\"\n\"\n": 2, "(\n\\\n": 2, "\x00": 1, "\n\x00": 2, "\u2028\u0085\x0b\x0c": 1,
		strings.Repeat("\n", 65536): 65536, strings.Repeat("\n", 65537): 65537, strings.Repeat("a\n", 100000) + "b": 100001, strings.Repeat("a", 1<<20): 1,
	} {
		if n := scan.Lines(s); n != want {
			t.Errorf("Lines(%.100q) = %d, want %d", s, n, want)
		}
	}
}

package scan_test

import (
	"strings"
	"testing"

	"nomenclator/api"
)

// P13.1: the chapter's examples.
func TestEntriesExamples(t *testing.T) {
	reads(t, "a b; c", entry(1, words("a", "b")...))
	reads(t, " x\ny", blank(1, word("x")), entry(2, word("y")))
	reads(t, "a (b\nc) d", entry(1, words("a", "b", "c", "d")...))
	reads(t, `a "b;c" ""`, entry(1, word("a"), quoted("b;c"), quoted("")))
	for _, s := range []string{`a"b`, `"a`, "(a", "a)", `"a"b`} {
		refuses(t, s, api.ErrScan, 1)
	}
	reads(t, `\; a\;b`, entry(1, words(`\;`, `a\;b`)...))
	reads(t, ";x")
	reads(t, "")
}

func TestTextsWithoutWords(t *testing.T) {
	for _, s := range []string{"", " ", "\t", "\r", "\n", "\r\n", "\n\n\n", " \n\t\n", ";", ";\n", " ;x", ";x\n;y\n", "()", "(\n)", "(;x\n)", "()()\n(())", "(\n\n)\n"} {
		reads(t, s)
	}
}

func TestBlanks(t *testing.T) {
	ab := words("a", "b")
	for _, c := range []string{" ", "\t", "\r"} {
		reads(t, "a"+c+"b", entry(1, ab...))
		reads(t, "a"+c+c+c+"b"+c, entry(1, ab...))
		reads(t, "a"+c+"b"+c+"\nc", entry(1, ab...), entry(2, word("c")))
		reads(t, c+"a"+c+"b", blank(1, ab...))
		reads(t, "x\n"+c+"a\nb", entry(1, word("x")), blank(2, word("a")), entry(3, word("b")))
	}
	reads(t, "a \t\r b", entry(1, ab...))
	reads(t, "a b\r\nc\r\n", entry(1, ab...), entry(2, word("c")))
	// No other bytes are blanks.
	for _, c := range []string{"\x00", "\x0b", "\x0c", "\x1f", "!", "\x85", "\xa0", "\xff"} {
		reads(t, c+"a"+c+"b"+c, entry(1, word(c+"a"+c+"b"+c)))
	}
}

// Each byte, where it may be a word's, ends one, or is a fault.
func TestEachByte(t *testing.T) {
	for n := range 256 {
		c := string([]byte{byte(n)})
		switch c {
		case " ", "\t", "\r":
			reads(t, "a"+c+"b", entry(1, words("a", "b")...))
			reads(t, `"a"`+c+"b", entry(1, quoted("a"), word("b")))
		case "(":
			reads(t, "a"+c+"b)", entry(1, words("a", "b")...))
			reads(t, `"a"`+c+"b)", entry(1, quoted("a"), word("b")))
			refuses(t, "a"+c+"b", api.ErrScan, 1)
		case ")":
			reads(t, "(a"+c+"b", entry(1, words("a", "b")...))
			reads(t, `("a"`+c+"b", entry(1, quoted("a"), word("b")))
			refuses(t, "a"+c+"b", api.ErrScan, 1)
		case "\n":
			reads(t, "a"+c+"b", entry(1, word("a")), entry(2, word("b")))
			reads(t, `"a"`+c+"b", entry(1, quoted("a")), entry(2, word("b")))
		case ";":
			reads(t, "a"+c+"b", entry(1, word("a")))
			reads(t, `"a"`+c+"b", entry(1, quoted("a")))
		case `"`, `\`:
			refuses(t, "a"+c, api.ErrScan, 1)
			refuses(t, `"a"`+c, api.ErrScan, 1)
		default:
			reads(t, c, entry(1, word(c)))
			reads(t, "a"+c+"b", entry(1, word("a"+c+"b")))
			refuses(t, `"a"`+c, api.ErrScan, 1)
		}
		if c == "\n" {
			refuses(t, `a\`+c, api.ErrScan, 1)
			refuses(t, `"a`+c+`"`, api.ErrScan, 1)
			refuses(t, `"a\`+c+`"`, api.ErrScan, 1)
			continue
		}
		reads(t, `\`+c, entry(1, word(`\`+c)))
		reads(t, `a\`+c+"b", entry(1, word(`a\`+c+"b")))
		reads(t, `"a\`+c+`b"`, entry(1, quoted(`a\`+c+"b")))
		reads(t, "x ;"+c+"b\ny", entry(1, word("x")), entry(2, word("y")))
		if c != `"` && c != `\` {
			reads(t, `"a`+c+`b"`, entry(1, quoted("a"+c+"b")))
		}
	}
}

func TestEndOfText(t *testing.T) {
	for _, end := range []string{"", "\n", " ", " \n", ";", ";x", ";x\n", "\r\n", "()", "\n\n"} {
		reads(t, "a b"+end, entry(1, words("a", "b")...))
		reads(t, `a "b"`+end, entry(1, word("a"), quoted("b")))
		reads(t, "x\n(a\nb)"+end, entry(1, word("x")), entry(2, words("a", "b")...))
	}
}

func TestRemarks(t *testing.T) {
	ab := words("a", "b")
	for _, remark := range []string{";", ";x", "; x y", ";;", `;"`, `; "x`, `;x"y"z"`, ";(", ";)", ";)))", ";((", `;\`, `;x\`, `;\"`, ";\t\r", ";\x00\xff"} {
		reads(t, "a b "+remark, entry(1, ab...))
		reads(t, "a b"+remark, entry(1, ab...)) // right behind a word
		reads(t, "a b "+remark+"\nc", entry(1, ab...), entry(2, word("c")))
		reads(t, `"a"`+remark+"\nc", entry(1, quoted("a")), entry(2, word("c")))
		reads(t, remark+"\na b", entry(2, ab...)) // alone in a line
		reads(t, "x\n"+remark+"\na b", entry(1, word("x")), entry(3, ab...))
		reads(t, "(a"+remark+"\nb)", entry(1, ab...)) // within brackets
		reads(t, "("+remark+"\na "+remark+"\n"+remark+"\nb "+remark+"\n)"+remark, entry(2, ab...))
	}
}

func TestBrackets(t *testing.T) {
	abc := words("a", "b", "c")
	for _, s := range []string{"(a b c)", "a(b)c", "a (b) c", "a((b))c", "(a)(b)(c)", "((a)b)c", "a b(c)", "a b c()", "()a b c", "(a\nb\nc)", "a(\n\n)b(\n)c", "(((a)\n(b)\n)c\n)", "a(b;)\n)c", "a (b\n\nc) ; x"} {
		reads(t, s, entry(1, abc...))
		reads(t, s+"\nd", entry(1, abc...), entry(2+strings.Count(s, "\n"), word("d")))
	}
	// The line is that of the first word, not of the bracket; Blank is told by the byte ahead of it.
	reads(t, "(\n\na b c)", entry(3, abc...))
	reads(t, " (\n\na b c)", blank(3, abc...))
	reads(t, `("a"("b")"c")`, entry(1, quoted("a"), quoted("b"), quoted("c")))
	// As many as a text has room for.
	deep := 32767
	reads(t, strings.Repeat("(", deep)+"a"+strings.Repeat(")", deep), entry(1, word("a")))
	refuses(t, strings.Repeat("(", deep)+"a"+strings.Repeat(")", deep-1), api.ErrScan, 1)
	refuses(t, strings.Repeat("(", deep)+"a"+strings.Repeat(")", deep+1), api.ErrScan, 1)
}

func TestBlank(t *testing.T) {
	a, b := word("a"), word("b")
	reads(t, "a", entry(1, a))
	reads(t, " a", blank(1, a))
	reads(t, "\n a", blank(2, a))
	reads(t, " \na", entry(2, a)) // the entry ahead had no words, but ended
	reads(t, " \n a", blank(2, a))
	reads(t, ";\n a", blank(2, a))
	reads(t, " ;\na", entry(2, a))
	reads(t, "b ;x\n a", entry(1, b), blank(2, a))
	reads(t, "b ;x\na", entry(1, b), entry(2, a))
	reads(t, "b\n\n a", entry(1, b), blank(3, a))
	reads(t, "b\n \na", entry(1, b), entry(3, a))
	reads(t, "(\n a)", entry(2, a)) // within brackets no byte 10 ends an entry
	reads(t, "( a)", entry(1, a))
	reads(t, " (a)", blank(1, a))
	reads(t, " (\na)", blank(2, a))
	reads(t, "(\n)\n a", blank(3, a))
	reads(t, "(b\n )\na", entry(1, b), entry(3, a))
	reads(t, "(\n ) a", entry(2, a))
	reads(t, ` "a"`, blank(1, quoted("a")))
	reads(t, `\ a`, entry(1, word(`\ a`))) // the blank is the \'s
	reads(t, "\r\na\r\n\rb", entry(2, a), blank(3, b))
}

func TestWordsInQuotes(t *testing.T) {
	for _, s := range []string{"", "a", ";", "a;b", " ", "a b", "\t", "\r", "(", ")", "))((", `\"`, `a\"b`, `\\`, `\\\"`, `\a`, `\;`, `\ `, `\(`, "\x00\xff", `\"\"`, `\\\\`} {
		reads(t, `"`+s+`"`, entry(1, quoted(s)))
		reads(t, `x "`+s+`" y`, entry(1, word("x"), quoted(s), word("y")))
		reads(t, `("`+s+"\"\n\""+s+`")`, entry(1, quoted(s), quoted(s)))
		refuses(t, `"`+s, api.ErrScan, 1)
		refuses(t, `"`+s+`\"`, api.ErrScan, 1)
		refuses(t, `"`+s+`\`, api.ErrScan, 1)
		refuses(t, `"`+s+"\n\"", api.ErrScan, 1)
	}
	// The \ ahead of the last " belongs to the \ ahead of it.
	reads(t, `"\\" "\\"`, entry(1, quoted(`\\`), quoted(`\\`)))
	refuses(t, `"\\\"`, api.ErrScan, 1)
}

func TestBehindQuotes(t *testing.T) {
	a, b := quoted("a"), word("b")
	for _, s := range []string{" ", "\t", "\r", "()", "(\n)"} {
		reads(t, `"a"`+s+"b", entry(1, a, b))
	}
	reads(t, `"a"`, entry(1, a))
	reads(t, `"a";b`, entry(1, a))
	reads(t, "\"a\"\nb", entry(1, a), entry(2, b))
	reads(t, `"a"("b")`, entry(1, a, quoted("b")))
	reads(t, `("a")b`, entry(1, a, b))
	for _, s := range []string{`"a""b"`, `"a"b`, `""b`, `"a"\`, `"a"\;`, `"a"@`, `"a""`, `"""`} {
		refuses(t, s, api.ErrScan, 1)
		refuses(t, "x\n\n"+s+"\n", api.ErrScan, 3)
	}
}

func TestEscapes(t *testing.T) {
	for _, s := range []string{`\ `, `a\ b`, `\;`, `a\;b`, `\(`, `a\)b`, `\"`, `\"a\"`, `a\"b`, `\\`, `a\\`, "\\\t", "\\\r", `\\\;`, `\000`, `\a`} {
		reads(t, s, entry(1, word(s)))
		reads(t, "("+s+"\n"+s+")", entry(1, words(s, s)...))
	}
	// An even number of \ leaves the byte behind them alone.
	reads(t, `a\\ b`, entry(1, words(`a\\`, "b")...))
	reads(t, `a\\;b`, entry(1, word(`a\\`)))
	reads(t, `(a\\)b`, entry(1, words(`a\\`, "b")...))
	reads(t, "a\\\\\nb", entry(1, word(`a\\`)), entry(2, word("b")))
	refuses(t, `a\\"b"`, api.ErrScan, 1)
	for _, s := range []string{`\`, `a\`, `a b\`, `\\\`, "\\\n", "a\\\n", "a\\\nb", `"\`, "\"\\\n\""} {
		refuses(t, s, api.ErrScan, 1)
		refuses(t, "x\n"+s, api.ErrScan, 2)
		refuses(t, "x (\n\n"+s, api.ErrScan, 3)
	}
}

// Each fault, and its line: in the first one, behind lines, and behind bytes 10 within brackets.
func TestFaults(t *testing.T) {
	for title, s := range map[string]string{
		"a quote in a word":               `a"`,
		"quotes in a word":                `a"b"`,
		"a quote behind quotes":           `"a""`,
		"a byte 10 in quotes":             "\"a\n\"",
		"a byte 10 behind a \\":           "a\\\nb",
		"a byte 10 behind a \\ in quotes": "\"a\\\nb\"",
		"the end in quotes":               `"a`,
		"the end right behind a quote":    `"`,
		"the end behind a \\":             `a\`,
		"the end behind a \\ in quotes":   `"a\`,
		"a byte behind quotes":            `"a"b`,
	} {
		t.Log(title)
		refuses(t, s, api.ErrScan, 1)
		refuses(t, "x\n \n;y\n"+s, api.ErrScan, 4)
		refuses(t, "x (y\n\n;)\n"+s, api.ErrScan, 4)
		refuses(t, "(\n)\n(\n(\n"+s, api.ErrScan, 5)
	}
	for _, s := range []string{")", "a)", "a )", "())", "(a))", `"a")`} {
		refuses(t, s, api.ErrScan, 1)
		refuses(t, "x\n\n"+s+"\n\n", api.ErrScan, 3)
		refuses(t, "x (\n\n)\n"+s, api.ErrScan, 4)
	}
	// The end while a bracket is open is in the last line: where a byte 10 stands at the end, in the one that it ends.
	for s, line := range map[string]int{"(": 1, "(a": 1, "(a\n": 1, "(a\n\n": 2, "(a\nb": 2, "a\n(": 2, "a\n(\n\nb\n": 4, "((a)": 1, "((a)\n)\n(\n": 3, "(;)": 1, "(;)\n": 1, "(a ;\n;": 2, "(\"a\"": 1, "(\n ": 2} {
		refuses(t, s, api.ErrScan, line)
	}
}

func TestFirstFault(t *testing.T) {
	refuses(t, "a)\nb\"", api.ErrScan, 1)
	refuses(t, "a\"\n)", api.ErrScan, 1)
	refuses(t, "(a\nb\"\nc", api.ErrScan, 2) // ahead of the end
	refuses(t, "(a\n\"b\n\nc", api.ErrScan, 2)
	refuses(t, "x\n\"a\"b\n)", api.ErrScan, 2)
	refuses(t, "x\n)\n\"a\"b", api.ErrScan, 2)
	refuses(t, "(a\\\n\n\n", api.ErrScan, 1)
	// A word too many, and another fault.
	refuses(t, ")\n"+many(65), api.ErrScan, 1)
	refuses(t, many(65)+"\n)", api.ErrLong, 1)
	refuses(t, "(\n"+many(65)+"\n", api.ErrLong, 2)
	refuses(t, "("+many(64)+"\n", api.ErrScan, 1)
	refuses(t, many(66)+`"`, api.ErrLong, 1)
	refuses(t, many(65)+"\na\"", api.ErrLong, 1)
	// Not before that word is over it is told.
	refuses(t, many(65)+`"`, api.ErrScan, 1)
	refuses(t, many(65)+`\`, api.ErrScan, 1)
	refuses(t, many(65)+"\\\n", api.ErrScan, 1)
	refuses(t, many(64)+` "a`, api.ErrScan, 1)
	refuses(t, many(64)+" \"a\n\"", api.ErrScan, 1)
	// But ahead of all that stands behind it.
	refuses(t, many(65)+")", api.ErrLong, 1)
	refuses(t, "("+many(65), api.ErrLong, 1)
	refuses(t, "("+many(65)+"\n\n", api.ErrLong, 1)
	refuses(t, many(64)+` "a"b`, api.ErrLong, 1)
	refuses(t, many(64)+` "a")`, api.ErrLong, 1)
}

func TestCountOfWords(t *testing.T) {
	var l []api.Term
	for range 64 {
		l = append(l, word("a"))
	}
	for _, end := range []string{"", " ", "\n", ";", ";x\n", "\r\n", "()"} {
		reads(t, many(64)+end, blank(1, l...))
		refuses(t, many(65)+end, api.ErrLong, 1)
		refuses(t, "x\n"+many(65)+end, api.ErrLong, 2)
		refuses(t, many(64)+` "a"`+end, api.ErrLong, 1)
		refuses(t, many(64)+` ""`+end, api.ErrLong, 1)
		refuses(t, "(\n"+many(64)+"\n\n)a"+end, api.ErrLong, 4)
	}
	reads(t, many(64)+"\n"+many(64)+"\n", blank(1, l...), blank(2, l...))
	reads(t, "("+many(32)+"\n"+many(32)+")", entry(1, l...))
	reads(t, "("+strings.Repeat("a\n", 64)+")", entry(1, l...))
	quotes := append(l[:63:63], quoted("a"))
	reads(t, many(63)+` "a"`, blank(1, quotes...))
	// The line of the word, not of the entry, and not of what ends it.
	refuses(t, "("+strings.Repeat("a\n", 65)+")", api.ErrLong, 65)
	refuses(t, "("+strings.Repeat("a\n", 64)+"\n\"a\"\n)", api.ErrLong, 66)
	refuses(t, "("+many(64)+"\n;a\n\na", api.ErrLong, 4)
	refuses(t, "("+many(64)+"\n\"\"", api.ErrLong, 2)
	refuses(t, many(65), api.ErrLong, 1)
	refuses(t, strings.Repeat("a ", 65), api.ErrLong, 1)
	refuses(t, strings.Repeat("a\n", 9)+strings.Repeat("\"\"(\n)", 65), api.ErrLong, 74)
	// What is no word does not count.
	reads(t, strings.Repeat("()", 99)+strings.Repeat("(a\n;b c\n)", 64), entry(1, l...))
}

func TestLengthOfText(t *testing.T) {
	full := strings.Repeat("a", 65536)
	reads(t, full, entry(1, word(full)))
	refuses(t, full+"a", api.ErrLong, 0)
	reads(t, strings.Repeat("\n", 65535)+"a", entry(65536, word("a")))
	reads(t, strings.Repeat("\n", 65536))
	// It is asked ahead of all else.
	for _, s := range []string{strings.Repeat("\n", 65537), strings.Repeat(")", 65537), strings.Repeat("a ", 40000), strings.Repeat(" ", 65537), strings.Repeat("\"", 1<<20)} {
		refuses(t, s, api.ErrLong, 0)
	}
	refuses(t, strings.Repeat("(", 65536), api.ErrScan, 1)
	refuses(t, strings.Repeat("\n", 65535)+")", api.ErrScan, 65536)
	refuses(t, "("+strings.Repeat("\n", 65535), api.ErrScan, 65535)
	refuses(t, strings.Repeat("\\", 65535), api.ErrScan, 1)
	reads(t, strings.Repeat("\\", 65536), entry(1, word(strings.Repeat("\\", 65536))))
}

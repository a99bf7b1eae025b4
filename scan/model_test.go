package scan_test

import (
	"fmt"
	"math/rand"
	"regexp"
	"slices"
	"strings"
	"testing"

	"nomenclator/api"
	"nomenclator/scan"
)

// word tells a word that is not in quotes, quoted one that is.
func word(s string) api.Term   { return api.Term{Text: s} }
func quoted(s string) api.Term { return api.Term{Text: s, Quoted: true} }

func words(l ...string) []api.Term {
	var out []api.Term
	for _, s := range l {
		out = append(out, word(s))
	}
	return out
}

// entry tells an entry that is not Blank, blank one that is.
func entry(line int, l ...api.Term) api.Entry { return api.Entry{Line: line, Words: l} }
func blank(line int, l ...api.Term) api.Entry { return api.Entry{Line: line, Blank: true, Words: l} }

func list(l ...api.Entry) []api.Entry { return l }

// many tells so many words with a blank ahead of each.
func many(count int) string { return strings.Repeat(" a", count) }

func alike(a, b []api.Entry) bool {
	return slices.EqualFunc(a, b, func(x, y api.Entry) bool {
		return x.Line == y.Line && x.Blank == y.Blank && slices.Equal(x.Words, y.Words)
	})
}

func brief(l []api.Entry) string { return fmt.Sprintf("%.400q", fmt.Sprint(l)) }

// reads tells whether a text's entries are these.
func reads(t *testing.T, s string, want ...api.Entry) {
	t.Helper()
	if l, f := scan.Entries(s); f != (api.Fault{}) || !alike(l, want) {
		t.Errorf("Entries(%.200q) = %s, {%d %d}; want %s", s, brief(l), f.Err, f.Line, brief(want))
	}
}

// refuses tells whether a text is refused so.
func refuses(t *testing.T, s string, err api.Errno, line int) {
	t.Helper()
	if l, f := scan.Entries(s); f.Err != err || f.Line != line || len(l) != 0 {
		t.Errorf("Entries(%.200q) = %s, {%d %d}; want {%d %d}", s, brief(l), f.Err, f.Line, err, line)
	}
}

// Another telling of the chapter's words: what stands at the front of a text is told piece by piece, by patterns.
var (
	nothingPiece = regexp.MustCompile(`^(?:[ \t\r]|;[^\n]*)+`)
	quotedPiece  = regexp.MustCompile(`^"((?:[^"\\\n]|\\[^\n])*)"`)
	plainPiece   = regexp.MustCompile(`^(?:[^ \t\r\n;()"\\]|\\[^\n])+`)
	behindPiece  = regexp.MustCompile(`^(?:$|[ \t\r\n;()])`)
)

// model tells what Entries must answer.
func model(s string) ([]api.Entry, api.Fault) {
	if len(s) > 65536 {
		return nil, api.Fault{Err: 3}
	}
	var out []api.Entry
	var now []api.Term
	place, first, line, open := 0, 0, 0, 0
	here := func() int { return 1 + strings.Count(s[:place], "\n") }
	fault := func(e api.Errno, line int) ([]api.Entry, api.Fault) { return nil, api.Fault{Err: e, Line: line} }
	entryEnds := func() {
		if len(now) > 0 {
			out = append(out, api.Entry{Line: line, Blank: strings.ContainsAny(s[first:first+1], " \t\r"), Words: now})
		}
		now = nil
	}
	for place < len(s) {
		rest := s[place:]
		if p := nothingPiece.FindString(rest); p != "" {
			place += len(p)
			continue
		}
		switch rest[0] {
		case '(':
			open++
			place++
			continue
		case ')':
			if open--; open < 0 {
				return fault(230, here())
			}
			place++
			continue
		case '\n':
			place++
			if open == 0 {
				entryEnds()
				first = place
			}
			continue
		}
		var w api.Term
		if p := quotedPiece.FindStringSubmatch(rest); p != nil {
			w = api.Term{Text: p[1], Quoted: true}
			place += len(p[0])
		} else if p := plainPiece.FindString(rest); p != "" {
			w = api.Term{Text: p}
			place += len(p)
			if !behindPiece.MatchString(s[place:]) {
				return fault(230, here())
			}
		} else {
			return fault(230, here())
		}
		if len(now) == 64 {
			return fault(3, here())
		}
		if len(now) == 0 {
			line = here()
		}
		now = append(now, w)
		if !behindPiece.MatchString(s[place:]) {
			return fault(230, here())
		}
	}
	if open > 0 {
		return fault(230, modelLines(s))
	}
	entryEnds()
	return out, api.Fault{}
}

func modelLines(s string) int {
	lines := strings.Split(s, "\n")
	if lines[len(lines)-1] == "" {
		return len(lines) - 1
	}
	return len(lines)
}

// modelJoin tells what Join must answer.
func modelJoin(l []api.Entry) (string, api.Errno) {
	var text strings.Builder
	long, none, tooMany := false, false, false
	for _, e := range l {
		none = none || len(e.Words) == 0
		tooMany = tooMany || len(e.Words) > 64
		var parts []string
		for _, w := range e.Words {
			p := w.Text
			if w.Quoted {
				p = `"` + p + `"`
			}
			long = long || len(p) > 65536
			if !long {
				got, f := model(p)
				none = none || f.Err != 0 || !alike(got, list(api.Entry{Line: 1, Words: []api.Term{w}}))
			}
			parts = append(parts, p)
		}
		if e.Blank {
			text.WriteString(" ")
		}
		text.WriteString(strings.Join(parts, " ") + "\n")
	}
	switch {
	case long:
		return "", 3
	case none:
		return "", 230
	case tooMany || text.Len() > 65536:
		return "", 3
	}
	return text.String(), 0
}

// asModel holds Entries against the other telling, and, where there are entries, Join too.
func asModel(t *testing.T, s string) {
	t.Helper()
	want, fault := model(s)
	got, f := scan.Entries(s)
	if f != fault || !alike(got, want) {
		t.Fatalf("Entries(%.300q) = %s, {%d %d}; want %s, {%d %d}", s, brief(got), f.Err, f.Line, brief(want), fault.Err, fault.Line)
	}
	if f.Err != api.OK && got != nil {
		t.Fatalf("Entries(%.300q) tells entries beside a fault", s)
	}
	if n := scan.Lines(s); n != modelLines(s) {
		t.Fatalf("Lines(%.300q) = %d", s, n)
	}
	joinsAsModel(t, got)
}

func joinsAsModel(t *testing.T, l []api.Entry) {
	t.Helper()
	want, wrong := modelJoin(l)
	if s, e := scan.Join(l); s != want || e != wrong {
		t.Fatalf("Join(%s) = %.300q, %d; want %.300q, %d", brief(l), s, e, want, wrong)
	}
}

// The bytes that mean something, and one that is a word's.
const telling = "a \n;()\"\\"

// every hands on all texts of so many of the telling bytes.
func every(size int, f func(string)) {
	b := make([]byte, size)
	var fill func(int)
	fill = func(place int) {
		if place == size {
			f(string(b))
			return
		}
		for _, c := range []byte(telling) {
			b[place] = c
			fill(place + 1)
		}
	}
	fill(0)
}

func TestEveryShortText(t *testing.T) {
	for size := range 6 {
		every(size, func(s string) { asModel(t, s) })
	}
}

// chance tells a text of pieces by chance.
func chance(r *rand.Rand, pieces []string, count int) string {
	var s strings.Builder
	for range count {
		s.WriteString(pieces[r.Intn(len(pieces))])
	}
	return s.String()
}

func TestTextsByChance(t *testing.T) {
	r := rand.New(rand.NewSource(13))
	for range 20000 {
		asModel(t, chance(r, strings.Split(telling+"\t\rb\x00\xff@$.", ""), r.Intn(40)))
	}
	// Pieces that are seldom wrong: the texts go further, and have many words.
	good := []string{" ", " a", " bc ", "\n", "\n d", " \"q\" ", " \"\" ", " \"; (\\\"\" ", "\\(", "\\\" ", " (", ") ", " ;r\n", "\t", "\r\n", "(\n", "\n)", " a b c d e f g h", " \"\"", " \\ "}
	for range 20000 {
		asModel(t, chance(r, good, r.Intn(90)))
	}
	// Open brackets, so that entries grow past the words that they may have.
	for range 3000 {
		s := "(" + chance(r, []string{" a", " b ", "\n", " \"q\" ", " ;r\n", " a b c d e f g h", "\n", "c"}, 20+r.Intn(60))
		asModel(t, s)
		asModel(t, s+")")
		asModel(t, s+"\n) z")
		asModel(t, s+"\"")
		asModel(t, s+"))")
	}
}

func TestJoinByChance(t *testing.T) {
	r := rand.New(rand.NewSource(14))
	for range 30000 {
		var l []api.Entry
		for range r.Intn(4) {
			e := api.Entry{Line: r.Intn(9) - 4, Blank: r.Intn(2) == 0}
			for range 1 + r.Intn(5) - r.Intn(2) {
				e.Words = append(e.Words, api.Term{Text: chance(r, []string{"a", "b", "c", "\\;", "\\\"", " ", "\\\\", "\\", ";", "(", "\"", "\n", "d", "e"}, r.Intn(3)), Quoted: r.Intn(2) == 0})
			}
			l = append(l, e)
		}
		joinsAsModel(t, l)
	}
}

func FuzzEntries(f *testing.F) {
	for _, s := range []string{"", "a b; c", " x\ny", "a (b\nc) d", "a \"b;c\" \"\"", "\\; a\\;b", "(\n\n", "\"\\", "((a))\n;(\n\r\t\"\"(\"\")"} {
		f.Add(s)
	}
	f.Fuzz(func(t *testing.T, s string) { asModel(t, s) })
}

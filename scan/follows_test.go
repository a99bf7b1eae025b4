package scan_test

import (
	"math/rand"
	"slices"
	"strings"
	"testing"

	"nomenclator/api"
	"nomenclator/scan"
)

// counted tells entries whose lines are counted from 1 on.
func counted(l []api.Entry) []api.Entry {
	l = slices.Clone(l)
	for i := range l {
		l[i].Line = i + 1
	}
	return l
}

// anyWord tells a word that could stand, by chance.
func anyWord(r *rand.Rand) api.Term {
	pieces := []string{"a", "B", "\\;", "\\\"", "\\\\", "\\ ", "\\(", "\\\t", "@", "$", "\x00", "\xff", "é", "."}
	if r.Intn(3) == 0 {
		return quoted(chance(r, append(pieces, " ", ";", "(", ")", "\t", "\r"), r.Intn(6)))
	}
	return word(chance(r, pieces, 1+r.Intn(6)))
}

// anyEntries tells entries that could stand, by chance, their lines any.
func anyEntries(r *rand.Rand) []api.Entry {
	var l []api.Entry
	for range r.Intn(6) {
		e := api.Entry{Line: r.Intn(100) - 50, Blank: r.Intn(2) == 0}
		count := 1 + r.Intn(5)
		if r.Intn(8) == 0 {
			count = 60 + r.Intn(5)
		}
		for range count {
			e.Words = append(e.Words, anyWord(r))
		}
		l = append(l, e)
	}
	return l
}

// P13.4: Entries of Join are the entries, their lines counted from 1 on; and Join of them is the text again.
func TestEntriesOfJoin(t *testing.T) {
	r := rand.New(rand.NewSource(15))
	for range 5000 {
		l := anyEntries(r)
		s, e := scan.Join(l)
		if e != api.OK {
			t.Fatalf("Join(%s) = %d", brief(l), e)
		}
		reads(t, s, counted(l)...)
		joins(t, s, counted(l)...)
		if n := scan.Lines(s); n != len(l) {
			t.Errorf("Lines(%q) = %d, of %d entries", s, n, len(l))
		}
	}
	// The longest text.
	full := slices.Repeat(list(entry(0, word("a"))), 32768)
	s, _ := scan.Join(full)
	reads(t, s, counted(full)...)
}

// Whatever is read may be joined, but for its length, and is read again.
func TestJoinOfEntries(t *testing.T) {
	for size := range 6 {
		every(size, func(s string) {
			l, f := scan.Entries(s)
			if f.Err != api.OK {
				return
			}
			text, e := scan.Join(l)
			if e != api.OK {
				t.Fatalf("Join(Entries(%q)) = %d", s, e)
			}
			if again, f := scan.Entries(text); f != (api.Fault{}) || !alike(again, counted(l)) {
				t.Fatalf("Entries(%q) = %s, behind %q", text, brief(again), s)
			}
		})
	}
}

// parts tells an entry's words as they stand.
func parts(e api.Entry) []string {
	var l []string
	for _, w := range e.Words {
		if w.Quoted {
			l = append(l, `"`+w.Text+`"`)
		} else {
			l = append(l, w.Text)
		}
	}
	return l
}

// Remarks, blanks at the end of lines, and empty lines change nothing but lines; brackets around an entry's words, and a byte 10 between its words within them, neither.
func TestWhatChangesLinesAlone(t *testing.T) {
	r := rand.New(rand.NewSource(16))
	empty := []string{"\n", "", "", ";x\n", " \t\r\n", " ;\"(\\\n", "()\n", "\r\n", "(\n;)\n)\n"}
	ends := []string{"", "", " ", "\t\r", ";", " ; )\"(\\", "()", "( )\r"}
	gaps := []string{" ", "\t ", "\n", " ;\"\n", "\r\n\n", "()", "(\n)", " ( ) "}
	for range 5000 {
		l := anyEntries(r)
		var s strings.Builder
		var want []api.Entry
		for _, e := range l {
			s.WriteString(chance(r, empty, r.Intn(3)))
			if e.Blank {
				s.WriteString(chance(r, []string{" ", "\t", "\r"}, 1+r.Intn(3)))
			}
			e.Line = 1 + strings.Count(s.String(), "\n")
			want = append(want, e)
			if r.Intn(2) == 0 {
				s.WriteString(strings.Join(parts(e), " "))
			} else {
				s.WriteString("(")
				for i, p := range parts(e) {
					if i > 0 {
						s.WriteString(chance(r, gaps, 1+r.Intn(2)))
					}
					s.WriteString(p)
				}
				s.WriteString(")")
			}
			s.WriteString(chance(r, ends, 1) + "\n")
		}
		s.WriteString(chance(r, empty, r.Intn(3)))
		reads(t, s.String(), want...)
	}
}

package scan_test

import (
	"slices"
	"strings"
	"testing"
	"unsafe"

	"nomenclator/api"
	"nomenclator/scan"
)

// What a caller does to what was returned leaves what is returned next, and the other lists of it, alone.
func TestEntriesAreNew(t *testing.T) {
	s := "a b c\n d \"e\" f\n" + strings.Repeat("g h i\n", 9)
	want, _ := model(s)
	one, _ := scan.Entries(s)
	two, _ := scan.Entries(s)
	for i := range one {
		room := one[i].Words[:cap(one[i].Words)]
		for j := range room {
			room[j] = quoted("spoilt")
		}
		one[i].Words = append(one[i].Words, word("more"))
		for k, e := range one[i+1:] {
			if !slices.Equal(e.Words, want[i+1+k].Words) {
				t.Errorf("entry %d shares room with entry %d", i, i+1+k)
			}
		}
	}
	spare := one[:cap(one)]
	for i := range spare {
		spare[i] = blank(-1)
	}
	if !alike(two, want) {
		t.Errorf("entries of one call are those of another: %s", brief(two))
	}
	reads(t, s, want...)
}

// A word that is kept does not keep the text.
func TestWordsAreNew(t *testing.T) {
	s := "a " + strings.Repeat("b", 1000) + ` "c"`
	l, _ := scan.Entries(s)
	from := uintptr(unsafe.Pointer(unsafe.StringData(s)))
	for _, w := range l[0].Words {
		if at := uintptr(unsafe.Pointer(unsafe.StringData(w.Text))); at >= from && at < from+uintptr(len(s)) {
			t.Errorf("the word %.20q is part of the text", w.Text)
		}
	}
}

// Join changes nothing of what it is handed, its spare room neither, and reads none of that.
func TestJoinChangesNothing(t *testing.T) {
	full := []api.Term{word("a"), quoted("b"), word(""), word(";")}
	entries := []api.Entry{{Line: 5, Blank: true, Words: full[:2]}, {Line: 5, Words: full[:1]}, {Line: 7}}
	joins(t, " a \"b\"\na\n", entries[:2]...)
	joinsNot(t, api.ErrScan, entries...)
	if !slices.Equal(full, []api.Term{word("a"), quoted("b"), word(""), word(";")}) {
		t.Errorf("the words are %v now", full)
	}
	if !alike(entries, list(blank(5, full[:2]...), entry(5, full[:1]...), entry(7))) {
		t.Errorf("the entries are %s now", brief(entries))
	}
	s, _ := scan.Join(entries[:2])
	full[0] = word("z")
	if s != " a \"b\"\na\n" {
		t.Errorf("the text is %q now", s)
	}
	joins(t, " z \"b\"\nz\n", entries[:2]...)
}

// nil and empty are the same.
func TestNilLists(t *testing.T) {
	joins(t, "")
	if s, e := scan.Join(nil); s != "" || e != api.OK {
		t.Errorf("Join(nil) = %q, %d", s, e)
	}
	joinsNot(t, api.ErrScan, api.Entry{Words: nil})
	joinsNot(t, api.ErrScan, api.Entry{Words: []api.Term{}})
	if l, f := scan.Entries(""); len(l) != 0 || f != (api.Fault{}) {
		t.Errorf("Entries of nothing = %v, %v", l, f)
	}
	if l, f := scan.Entries(")"); l != nil || f.Err != api.ErrScan {
		t.Errorf("Entries of a fault = %v, %v", l, f)
	}
}

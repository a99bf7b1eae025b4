package paper_test

import (
	"fmt"
	"math/rand"
	"slices"
	"strings"
	"testing"

	"nomenclator/api"
	"nomenclator/master"
	"nomenclator/name"
	"nomenclator/paper"
	"nomenclator/rdata"
	"nomenclator/rtext"
)

// Another telling of the chapter's words: short texts are cut out of whole ones, words come out of lists, and a record is held against the one ahead of it in the list.

const greatest = 2147483647

func textOf(n api.Name) string {
	s, _ := name.Text(n)
	return s
}

// modelShort cuts the origin's text off, where one of the name's tails has the same: unlike names have unlike texts.
func modelShort(n, origin api.Name) string {
	whole, top := textOf(n), textOf(origin)
	if whole == top {
		return "@"
	}
	for i := range n {
		if top != "." && textOf(n[i:]) == top {
			return whole[:len(whole)-len(top)-1]
		}
	}
	return whole
}

func modelClass(c api.Class) string {
	switch c {
	case 1:
		return "IN"
	case 3:
		return "CH"
	case 4:
		return "HS"
	case 254:
		return "NONE"
	}
	return fmt.Sprint("CLASS", uint16(c))
}

func modelType(t api.Type) string {
	words := map[api.Type]string{1: "A", 2: "NS", 5: "CNAME", 6: "SOA", 12: "PTR", 15: "MX", 16: "TXT", 28: "AAAA", 33: "SRV", 257: "CAA"}
	if words[t] != "" {
		return words[t]
	}
	return fmt.Sprint("TYPE", uint16(t))
}

func modelStored(t api.Type) bool { return t > 0 && t < 128 && t != 41 || t > 255 }

// modelWrong tells Line's error.
func modelWrong(r api.Record) api.Errno {
	all := []api.Errno{name.Check(r.Owner), 0, rdata.Check(r.Type, r.Data), 0}
	if !modelStored(r.Type) {
		all[1] = 6
	}
	if r.TTL > greatest {
		all[3] = 2
	}
	for _, e := range all {
		if e != 0 {
			return e
		}
	}
	return 0
}

func modelLine(r api.Record) (string, api.Errno) {
	if e := modelWrong(r); e != 0 {
		return "", e
	}
	data, _ := rtext.Text(r.Type, r.Data)
	return fmt.Sprintf("%s %d %s %s %s\n", textOf(r.Owner), r.TTL, modelClass(r.Class), modelType(r.Type), data), 0
}

func modelText(origin api.Name, l []api.Record) (string, api.Errno) {
	if e := name.Check(origin); e != 0 {
		return "", e
	}
	if len(l) > 2048 {
		return "", 3
	}
	lines := []string{"$ORIGIN " + textOf(origin)}
	for i, r := range l {
		if e := modelWrong(r); e != 0 {
			return "", e
		}
		owner, class := modelShort(r.Owner, origin), modelClass(r.Class)+" "
		if i > 0 && textOf(l[i-1].Owner) == textOf(r.Owner) {
			owner = ""
		}
		if i == 0 && r.Class == 1 || i > 0 && l[i-1].Class == r.Class {
			class = ""
		}
		data, _ := rtext.Text(r.Type, r.Data)
		lines = append(lines, fmt.Sprintf("%s %d %s%s %s", owner, r.TTL, class, modelType(r.Type), data))
	}
	s := strings.Join(lines, "\n") + "\n"
	if len(s) > 65536 {
		return "", 3
	}
	return s, 0
}

func brief(v any) string { return fmt.Sprintf("%.400s", fmt.Sprintf("%v", v)) }

// same tells whether two records are the same, byte for byte; nil and empty lists are.
func same(a, b api.Record) bool {
	return slices.Equal(a.Owner, b.Owner) && a.Type == b.Type && a.Class == b.Class && a.TTL == b.TTL && sameData(a.Data, b.Data)
}

func sameData(a, b api.Data) bool {
	names := slices.EqualFunc(a.Names, b.Names, func(x, y api.Name) bool { return slices.Equal(x, y) })
	return names && slices.Equal(a.Nums, b.Nums) && slices.Equal(a.Texts, b.Texts) && slices.Equal(a.Raw, b.Raw)
}

func sameAll(a, b []api.Record) bool { return slices.EqualFunc(a, b, same) }

// lines holds Line to what it must answer.
func lines(t *testing.T, r api.Record, want string, wrong api.Errno) {
	t.Helper()
	if s, e := paper.Line(r); s != want || e != wrong {
		t.Errorf("Line(%s) = %.300q, %d; want %.300q, %d", brief(r), s, e, want, wrong)
	}
}

// shortens holds Short to what it must answer.
func shortens(t *testing.T, n, origin api.Name, want string, wrong api.Errno) {
	t.Helper()
	if s, e := paper.Short(n, origin); s != want || e != wrong {
		t.Errorf("Short(%.100q, %.100q) = %.300q, %d; want %.300q, %d", n, origin, s, e, want, wrong)
	}
}

// prints holds Text to what it must answer.
func prints(t *testing.T, origin api.Name, l []api.Record, want string, wrong api.Errno) {
	t.Helper()
	if s, e := paper.Text(origin, l); s != want || e != wrong {
		t.Errorf("Text(%.100q, %s) = %.300q (%d bytes), %d; want %.300q (%d bytes), %d", origin, brief(l), s, len(s), e, want, len(want), wrong)
	}
}

// readsAgain tells whether a text is read as these records, whatever the origin with which reading begins.
func readsAgain(t *testing.T, s string, want ...api.Record) {
	t.Helper()
	for _, origin := range []api.Name{nil, {"b"}, {"a", "b"}, {"other", "B"}, {"$", "@.\""}} {
		l, f := master.Parse(s, origin)
		if f != (api.Fault{}) || !sameAll(l, want) {
			t.Fatalf("Parse(%.300q, %q) = %s, {%d %d}; want %s", s, origin, brief(l), f.Err, f.Line, brief(want))
		}
	}
}

// asModel holds Text against the other telling, and what it tells against the records.
func asModel(t *testing.T, origin api.Name, l []api.Record) {
	t.Helper()
	want, wrong := modelText(origin, l)
	prints(t, origin, l, want, wrong)
	if wrong == 0 && fewWords(l) {
		readsAgain(t, want, l...)
	}
}

// fewWords tells whether no entry would have too many words, however much it says.
func fewWords(l []api.Record) bool {
	return !slices.ContainsFunc(l, func(r api.Record) bool { return len(r.Data.Texts) > 60 })
}

func pick[T any](r *rand.Rand, l []T) T { return l[r.Intn(len(l))] }

// labels want escapes, are read as something else without them, are alike but for their letters.
var labels = []string{"a", "A", "b", "B", "@", "$", "$ORIGIN", "$ttl", "*", "60", "IN", "TXT", `"`, `""`, ";", "(", ")", `\`, `\\`, ".", "a.", ".b", "a.b", " ", "\t", "\r", "\n", "\x00", "\x7f", "\xff", "é", "#", `\#`, "\n.", strings.Repeat("x", 63), strings.Repeat("\n", 63)}

// anyName tells a name of few labels, under a few others or none.
func anyName(r *rand.Rand) api.Name {
	n := api.Name{}
	for range r.Intn(3) {
		n = append(n, pick(r, labels))
	}
	return append(n, pick(r, []api.Name{nil, {"b"}, {"B"}, {"a", "b"}, {"A", "b"}, {"@"}})...)
}

func anyText(r *rand.Rand) string {
	s := ""
	for range r.Intn(4) {
		s += pick(r, labels)
	}
	return s
}

// anyData tells data of a type.
func anyData(r *rand.Rand, t api.Type) api.Data {
	raw := func(n int) []byte {
		b := make([]byte, n)
		r.Read(b)
		return b
	}
	switch t {
	case api.A:
		return api.Data{Raw: raw(4)}
	case api.AAAA:
		b := raw(16)
		for i := range b {
			b[i] *= byte(r.Intn(2))
		}
		return api.Data{Raw: b}
	case api.NS, api.CNAME, api.PTR:
		return api.Data{Names: []api.Name{anyName(r)}}
	case api.SOA:
		return api.Data{Names: []api.Name{anyName(r), anyName(r)}, Nums: []uint32{r.Uint32(), 0, 1, 4294967295, r.Uint32()}}
	case api.MX:
		return api.Data{Names: []api.Name{anyName(r)}, Nums: []uint32{uint32(r.Intn(65536))}}
	case api.SRV:
		return api.Data{Names: []api.Name{anyName(r)}, Nums: []uint32{uint32(r.Intn(65536)), 0, 65535}}
	case api.TXT:
		d := api.Data{Texts: []string{anyText(r)}}
		for range r.Intn(4) {
			d.Texts = append(d.Texts, anyText(r))
		}
		return d
	case api.CAA:
		return api.Data{Nums: []uint32{uint32(r.Intn(256))}, Texts: []string{pick(r, []string{"issue", "IN", "A", "60", "0", "Z9"}), anyText(r)}}
	}
	return api.Data{Raw: raw(r.Intn(5))}
}

var (
	types   = []api.Type{api.A, api.NS, api.CNAME, api.SOA, api.PTR, api.MX, api.TXT, api.AAAA, api.SRV, api.CAA, 3, 40, 42, 99, 127, 256, 258, 65535}
	classes = []api.Class{1, 1, 1, 3, 4, 0, 2, 5, 254, 255, 255, 256, 65535}
	ttls    = []uint32{0, 1, 60, 604800, 604801, greatest}
)

// anyRecord tells a record that may be printed; often it has the owner, the class of the one ahead.
func anyRecord(r *rand.Rand, ahead api.Record) api.Record {
	t := pick(r, types)
	one := api.Record{Owner: anyName(r), Type: t, Class: pick(r, classes), TTL: pick(r, ttls), Data: anyData(r, t)}
	if r.Intn(2) == 0 {
		one.Owner = slices.Clone(ahead.Owner)
	}
	if r.Intn(3) == 0 {
		one.Class = ahead.Class
	}
	return one
}

func anyRecords(r *rand.Rand, count int) []api.Record {
	var l []api.Record
	ahead := api.Record{Owner: api.Name{"b"}, Class: 1}
	for range count {
		ahead = anyRecord(r, ahead)
		l = append(l, ahead)
	}
	return l
}

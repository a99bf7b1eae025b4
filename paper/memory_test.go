package paper_test

import (
	"reflect"
	"slices"
	"strings"
	"sync"
	"testing"

	"nomenclator/api"
	"nomenclator/paper"
	"nomenclator/rdata"
)

// roomy tells a list with spare room, which must be neither read nor written.
func roomy[T any](l []T, spare T) []T {
	return slices.Concat(l, slices.Repeat([]T{spare}, 4))[:len(l)]
}

// roomyRecords are records of which every list has spare room.
func roomyRecords() []api.Record {
	more := api.Name{"spare"}
	var l []api.Record
	for _, r := range []api.Record{
		a(60, 1, "a", "b"),
		with(api.TXT, api.Data{Texts: []string{"x", "y"}}),
		with(api.SOA, api.Data{Names: []api.Name{{"ns"}, {"h", "b"}}, Nums: []uint32{1, 2, 3, 4, 5}}),
		a(5, 3, "b"),
	} {
		r.Owner = roomy(r.Owner, "spare")
		for i, n := range r.Data.Names {
			r.Data.Names[i] = roomy(n, "spare")
		}
		r.Data.Names = roomy(r.Data.Names, more)
		r.Data.Nums = roomy(r.Data.Nums, 77)
		r.Data.Texts = roomy(r.Data.Texts, "spare")
		r.Data.Raw = roomy(r.Data.Raw, 77)
		l = append(l, r)
	}
	return roomy(l, with(api.OPT, api.Data{}))
}

// whole tells all that stands in records' memory, the spare room too.
func whole(l []api.Record) []api.Record {
	var all []api.Record
	for _, r := range l[:cap(l)] {
		r.Owner = r.Owner[:cap(r.Owner)]
		r.Data.Names = r.Data.Names[:cap(r.Data.Names)]
		for i, n := range r.Data.Names {
			if cap(n) > len(n) {
				r.Data.Names[i] = n[:cap(n)]
			}
		}
		r.Data.Nums = r.Data.Nums[:cap(r.Data.Nums)]
		r.Data.Texts = r.Data.Texts[:cap(r.Data.Texts)]
		r.Data.Raw = r.Data.Raw[:cap(r.Data.Raw)]
		all = append(all, r)
	}
	return all
}

// copied are records in memory of their own.
func copied(l []api.Record) []api.Record {
	l = slices.Clone(l)
	for i := range l {
		l[i].Owner = slices.Clone(l[i].Owner)
		l[i].Data = rdata.Copy(l[i].Data)
	}
	return l
}

const roomyText = "$ORIGIN b.\na 60 A 1.2.3.4\n 60 TXT \"x\" \"y\"\n 60 SOA ns. h.b. 1 2 3 4 5\n@ 5 CH A 1.2.3.4\n"

// What was handed in is not changed, its spare room neither.
func TestWhatIsHandedIn(t *testing.T) {
	l, origin := roomyRecords(), roomy(b, "spare")
	n := roomy(api.Name{"a", "b"}, "spare")
	prints(t, origin, l, roomyText, api.OK)
	lines(t, l[1], "a.b. 60 IN TXT \"x\" \"y\"\n", api.OK)
	shortens(t, n, origin, "a", api.OK)
	shortens(t, n, n[1:], "a", api.OK)
	shortens(t, origin, n, "b.", api.OK)
	if !slices.Equal(origin[:5], api.Name{"b", "spare", "spare", "spare", "spare"}) || !slices.Equal(n[:6], api.Name{"a", "b", "spare", "spare", "spare", "spare"}) {
		t.Errorf("the names are %q, %q now", origin[:5], n[:6])
	}
	if got, want := whole(l), whole(roomyRecords()); !reflect.DeepEqual(got, want) {
		t.Errorf("the records are %v now, not %v", got, want)
	}
	// Refused ones neither.
	l = roomyRecords()
	l[3].TTL = greatest + 1
	want := copied(l)
	prints(t, origin, l, "", api.ErrArg)
	lines(t, l[3], "", api.ErrArg)
	if !sameAll(l, want) {
		t.Errorf("the records are %v now", l)
	}
}

// What a caller does to what was handed in leaves the text alone, and tells in the next one.
func TestTextIsNew(t *testing.T) {
	l, origin := roomyRecords(), api.Name{"b"}
	text, _ := paper.Text(origin, l)
	line, _ := paper.Line(l[1])
	one, _ := paper.Short(l[0].Owner, origin)
	origin[0] = "c"
	for i := range l {
		l[i].Owner[0] = "spoilt"
		for j := range l[i].Data.Texts {
			l[i].Data.Texts[j] = "spoilt"
		}
		for j := range l[i].Data.Raw {
			l[i].Data.Raw[j] = 9
		}
		l[i].Class, l[i].TTL = 4, 4
	}
	if text != roomyText || line != "a.b. 60 IN TXT \"x\" \"y\"\n" || one != "a" {
		t.Errorf("%q, %q, %q", text, line, one)
	}
	prints(t, origin, l, "$ORIGIN c.\nspoilt.b. 4 HS A 9.9.9.9\n 4 TXT \"spoilt\" \"spoilt\"\n 4 SOA ns. h.b. 1 2 3 4 5\nspoilt. 4 A 9.9.9.9\n", api.OK)
}

// An owner of which the record ahead has the memory, but not the labels, is another one.
func TestOwnersThatShareMemory(t *testing.T) {
	n := api.Name{"a", "a", "b"}
	l := []api.Record{a(1, 1, n[:2]...), a(1, 1, n[1:]...), a(1, 1, n[:1]...), a(1, 1, n[1:2]...)}
	tells(t, b, l, "$ORIGIN b.", "a.a. 1 A 1.2.3.4", "a 1 A 1.2.3.4", "a. 1 A 1.2.3.4", " 1 A 1.2.3.4")
	tells(t, n[2:], l, "$ORIGIN b.", "a.a. 1 A 1.2.3.4", "a 1 A 1.2.3.4", "a. 1 A 1.2.3.4", " 1 A 1.2.3.4")
}

// nil and empty are the same.
func TestNilLists(t *testing.T) {
	empty := api.Data{Names: []api.Name{}, Nums: []uint32{}, Texts: []string{}, Raw: []byte{}}
	for _, n := range []api.Name{nil, {}} {
		for _, origin := range []api.Name{nil, {}} {
			shortens(t, n, origin, "@", api.OK)
			prints(t, origin, nil, "$ORIGIN .\n", api.OK)
			prints(t, origin, []api.Record{}, "$ORIGIN .\n", api.OK)
			l := []api.Record{{Owner: n, Type: 99, Class: 1}, {Owner: origin, Type: 99, Class: 1, Data: empty}}
			prints(t, origin, l, "$ORIGIN .\n@ 0 TYPE99 \\# 0\n 0 TYPE99 \\# 0\n", api.OK)
			lines(t, l[0], ". 0 IN TYPE99 \\# 0\n", api.OK)
			lines(t, l[1], ". 0 IN TYPE99 \\# 0\n", api.OK)
			l[1].Data = api.Data{Names: []api.Name{n}}
			l[1].Type = api.NS
			lines(t, l[1], ". 0 IN NS .\n", api.OK)
		}
	}
	lines(t, api.Record{}, "", api.ErrType)
	lines(t, api.Record{Type: api.A}, "", api.ErrData)
	prints(t, nil, []api.Record{{}}, "", api.ErrType)
}

// P1: the same each time, also at once.
func TestSameEachTime(t *testing.T) {
	var all sync.WaitGroup
	l := roomyRecords()
	for range 8 {
		all.Go(func() {
			for range 200 {
				text, err := paper.Text(b, l)
				line, _ := paper.Line(l[0])
				one, _ := paper.Short(l[0].Owner, b)
				if text != roomyText || err != api.OK || line != "a.b. 60 IN A 1.2.3.4\n" || one != "a" {
					t.Errorf("%q, %d, %q, %q", text, err, line, one)
				}
			}
		})
	}
	all.Wait()
}

// P1: the calls end whatever they are given, and tell nothing beside an error.
func TestCalm(t *testing.T) {
	names := []api.Name{nil, {}, {""}, {"a", ""}, {strings.Repeat("a", 70000)}, slices.Repeat(api.Name{""}, 70000), slices.Repeat(api.Name{"a"}, 128), slices.Repeat(api.Name{"a"}, 127)}
	datas := []api.Data{{}, ip, {Names: names}, {Names: names[:1]}, {Nums: make([]uint32, 70000)}, {Texts: make([]string, 70000)}, {Raw: make([]byte, 70000)}, {Names: names[:2], Nums: make([]uint32, 5), Texts: make([]string, 1), Raw: ip.Raw}}
	for _, n := range names {
		for _, origin := range names {
			if s, err := paper.Short(n, origin); err != api.OK && s != "" {
				t.Errorf("%q beside %d", s, err)
			}
		}
		for _, kind := range append([]api.Type{0, 41, 128, 255}, types...) {
			for _, d := range datas {
				r := api.Record{Owner: n, Type: kind, Class: 7, TTL: 1, Data: d}
				want, wrong := modelLine(r)
				lines(t, r, want, wrong)
				if s, err := paper.Text(n, []api.Record{r}); err != api.OK && s != "" {
					t.Errorf("%q beside %d", s, err)
				}
			}
		}
	}
}

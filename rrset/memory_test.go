package rrset_test

import (
	"slices"
	"testing"

	"nomenclator/api"
	"nomenclator/rrset"
)

// lay writes over a list, its spare room too.
func lay[T any](l []T, v T) {
	for i := range l[:cap(l)] {
		l[:cap(l)][i] = v
	}
}

func layData(d api.Data) {
	for _, n := range d.Names[:cap(d.Names)] {
		lay(n, "XX")
	}
	lay(d.Names, api.Name{"YY"})
	lay(d.Nums, 77)
	lay(d.Texts, "ZZ")
	lay(d.Raw, 'W')
}

func laySet(s api.Set) {
	lay(s.Owner, "OO")
	for _, d := range s.Data[:cap(s.Data)] {
		layData(d)
	}
	lay(s.Data, raw('V'))
}

func laySets(l []api.Set) {
	for _, s := range l[:cap(l)] {
		laySet(s)
	}
	lay(l, api.Set{TTL: 99})
}

func layRecords(l []api.Record) {
	for _, r := range l[:cap(l)] {
		lay(r.Owner, "OO")
		layData(r.Data)
	}
	lay(l, api.Record{TTL: 99})
}

// room tells a list with spare room in which something stands.
func room[T any](l []T, spare T) []T {
	return append(slices.Clone(l), spare, spare, spare)[:len(l)]
}

// kept tells whether a list's spare room is as room made it.
func kept[T comparable](l []T, spare T) bool {
	return !slices.ContainsFunc(l[len(l):len(l)+3], func(v T) bool { return v != spare })
}

func roomData(d api.Data) api.Data {
	c := api.Data{Nums: room(d.Nums, 88), Texts: room(d.Texts, "spare"), Raw: room(d.Raw, 88)}
	for _, n := range d.Names {
		c.Names = append(c.Names, room(n, "spare"))
	}
	c.Names = room(c.Names, api.Name{"spare"})
	return c
}

func keptData(d api.Data) bool {
	ok := kept(d.Nums, 88) && kept(d.Texts, "spare") && kept(d.Raw, 88)
	for _, n := range d.Names {
		ok = ok && kept(n, "spare")
	}
	for _, n := range d.Names[len(d.Names) : len(d.Names)+3] {
		ok = ok && n[0] == "spare"
	}
	return ok
}

func roomSet(s api.Set) api.Set {
	s.Owner = room(s.Owner, "spare")
	var l []api.Data
	for _, d := range s.Data {
		l = append(l, roomData(d))
	}
	s.Data = room(l, text("spare"))
	return s
}

func keptSet(s api.Set) bool {
	ok := kept(s.Owner, "spare")
	for _, d := range s.Data {
		ok = ok && keptData(d)
	}
	for _, d := range s.Data[len(s.Data) : len(s.Data)+3] {
		ok = ok && len(d.Texts) == 1 && d.Texts[0] == "spare"
	}
	return ok
}

// lent are sets of which all lists have something, or their data are turned about, or may not be.
func lent() []api.Set {
	full := api.Data{Names: []api.Name{{"A", "b"}, {"C"}}, Nums: []uint32{1, 2}, Texts: []string{"T", "u"}, Raw: []byte("RAW")}
	return []api.Set{
		set("A.b.", api.NS, 5, host("z.y."), host("B.c."), host("a.")),
		set("A.b.", api.MX, 5, mx(2, "a.b."), mx(1, "b.c.")),
		set("a.", api.SOA, 5, api.Data{Names: []api.Name{{"b", "c"}, {"d"}}, Nums: []uint32{5, 4, 3, 2, 1}}, api.Data{Names: []api.Name{{"a", "c"}, {"d"}}, Nums: []uint32{5, 4, 3, 2, 1}}),
		set("a.", api.TXT, 5, text("b", "a"), text("a", "b")),
		set("a.", 99, 5, raw(2, 2), raw(1, 1), raw()),
		{Owner: of("a."), Type: 99, Class: api.IN, Data: []api.Data{full, full}},
		{},
	}
}

// Rule 4: an answer made of a set shares no memory with it, nor with another answer.

func TestSetMemory(t *testing.T) {
	for i, s := range lent() {
		calls := map[string]func(api.Set) api.Set{
			"Copy":  rrset.Copy,
			"Canon": rrset.Canon,
			"Find":  func(s api.Set) api.Set { f, _ := rrset.Find([]api.Set{s}, s.Owner, s.Type); return f },
			"Sort":  func(s api.Set) api.Set { return rrset.Sort([]api.Set{s})[0] },
			"Add":   func(s api.Set) api.Set { m, _, _ := rrset.Add(s, fine(s.Type, 9)); return m },
			"Add of what is there": func(s api.Set) api.Set {
				m, _, _ := rrset.Add(s, slices.Concat(s.Data, []api.Data{{}})[0])
				return m
			},
		}
		for what, call := range calls {
			given := roomSet(s)
			want := call(s)
			one, two := call(given), call(given)
			if !equal(one, want) || !equal(two, want) {
				t.Errorf("%d: %s: %v, %v, not %v", i, what, one, two, want)
			}
			laySet(one)
			if !equal(given, s) || !keptSet(given) || !equal(two, want) {
				t.Errorf("%d: %s: an answer shares memory with what was given, or with another", i, what)
			}
			laySet(given)
			if !equal(two, want) {
				t.Errorf("%d: %s: an answer shares memory with what was given", i, what)
			}
		}
		rest := func(given api.Set) {
			rrset.Check(given)
			rrset.Same(given, given)
			rrset.SameData(given, rrset.Copy(given))
		}
		given := roomSet(s)
		rest(given)
		if !equal(given, s) || !keptSet(given) {
			t.Errorf("%d: what was given was changed", i)
		}
	}
}

// Data that are added are lent, too.

func TestAddMemory(t *testing.T) {
	for i, d := range []api.Data{{Nums: []uint32{3}, Names: []api.Name{{"Q", "r"}}}, mx(1, "B.C.")} {
		s := set("A.b.", api.MX, 5, mx(2, "a.b."), mx(1, "b.c."))
		given := roomData(d)
		want, _, _ := rrset.Add(s, d)
		one, _, _ := rrset.Add(s, given)
		two, _, e := rrset.Add(s, given)
		laySet(one)
		if e != api.OK || !alike(given, d) || !keptData(given) || !equal(two, want) {
			t.Errorf("%d: an answer shares memory with what was added", i)
		}
		layData(given)
		if !equal(two, want) {
			t.Errorf("%d: an answer shares memory with what was added", i)
		}
	}
}

// Rule 4: records and the sets made of them share nothing, and no two lists of one answer do.

func TestRecordsMemory(t *testing.T) {
	for i, s := range lent()[:5] {
		given := roomSet(s)
		want, _ := rrset.Records(s)
		one, _ := rrset.Records(given)
		two, e := rrset.Records(given)
		if e != api.OK {
			t.Fatalf("%d: %d", i, e)
		}
		layRecords(one)
		if !equal(given, s) || !keptSet(given) || !slices.EqualFunc(two, want, equalRecords) {
			t.Errorf("%d: Records shares memory", i)
		}
		laySet(given)
		if !slices.EqualFunc(two, want, equalRecords) {
			t.Errorf("%d: Records shares memory with what was given", i)
		}
		lay(two[0].Owner, "OO")
		layData(two[0].Data)
		if !slices.EqualFunc(two[1:], want[1:], equalRecords) {
			t.Errorf("%d: two records share memory", i)
		}
	}
}

func TestOfMemory(t *testing.T) {
	var l []api.Record
	for _, s := range lent()[:5] {
		r, _ := rrset.Records(s)
		l = append(l, r...)
		l = append(l, r...)
	}
	l = append(l, record("A.B.", api.NS, 3, host("Z.Y.")), record("c.", api.NS, 3, host("z.y.")))
	loan := func() []api.Record {
		var given []api.Record
		for _, r := range l {
			r.Owner = room(r.Owner, "spare")
			r.Data = roomData(r.Data)
			given = append(given, r)
		}
		return room(given, record("spare.", 99, 88, raw(8)))
	}
	given := loan()
	want := model(l)
	one, _ := rrset.Of(given)
	two, e := rrset.Of(given)
	if e != api.OK || !slices.EqualFunc(two, want, equal) {
		t.Fatalf("%v, %d", two, e)
	}
	laySets(one)
	for i, r := range given {
		if !equalRecords(r, l[i]) || !kept(r.Owner, "spare") || !keptData(r.Data) {
			t.Errorf("%d: what was given was changed", i)
		}
	}
	for _, r := range given[len(given) : len(given)+3] {
		if !equalRecords(r, record("spare.", 99, 88, raw(8))) {
			t.Error("the spare room was changed")
		}
	}
	if !slices.EqualFunc(two, want, equal) {
		t.Error("two answers share memory")
	}
	layRecords(given)
	if !slices.EqualFunc(two, want, equal) {
		t.Error("an answer shares memory with what was given")
	}
	for i := range two { // what is laid over one set is not seen in those behind it
		laySet(two[i])
		if !slices.EqualFunc(two[i+1:], want[i+1:], equal) {
			t.Errorf("set %d shares memory with another", i)
		}
	}
}

// Data of one answer lie apart, their lists too: what is laid over one, or behind it, is not seen in the next.

func TestDataApart(t *testing.T) {
	for i, s := range lent()[:6] {
		for _, call := range []func(api.Set) api.Set{rrset.Copy, rrset.Canon} {
			want := call(s)
			got := call(roomSet(s))
			for j := range got.Data {
				layData(got.Data[j])
				if !slices.EqualFunc(got.Data[j+1:], want.Data[j+1:], alike) || !slices.Equal(got.Owner, want.Owner) {
					t.Errorf("%d: data %d share memory with others", i, j)
				}
			}
		}
	}
}

// Sort leaves the list that it was lent, and lays its sets apart.

func TestSortMemory(t *testing.T) {
	l := lent()
	slices.Reverse(l)
	var given []api.Set
	for _, s := range l {
		given = append(given, roomSet(s))
	}
	given = room(given, set("spare.", 99, 88))
	want := rrset.Sort(l)
	one, two := rrset.Sort(given), rrset.Sort(given)
	laySets(one)
	if !slices.EqualFunc(given, l, equal) || !slices.EqualFunc(two, want, equal) || !slices.EqualFunc(given[len(given):len(given)+3], slices.Repeat([]api.Set{set("spare.", 99, 88)}, 3), equal) {
		t.Error("an answer shares memory with what was given, or with another")
	}
	laySets(given)
	if !slices.EqualFunc(two, want, equal) {
		t.Error("an answer shares memory with what was given")
	}
	for i := range two {
		laySet(two[i])
		if !slices.EqualFunc(two[i+1:], want[i+1:], equal) {
			t.Errorf("set %d shares memory with another", i)
		}
	}
}

// The same set twice in a list, or a list lent twice, is told as two of their own.

func TestLentTwice(t *testing.T) {
	d := host("a.b.")
	s := set("a.", api.NS, 5, d)
	l := rrset.Sort([]api.Set{s, s})
	laySet(l[0])
	if !equal(l[1], s) {
		t.Errorf("%v", l)
	}
	r := api.Record{Owner: of("a."), Type: api.NS, Class: api.IN, TTL: 5, Data: d}
	other := r
	other.Class = 3
	made, e := rrset.Of([]api.Record{r, other})
	if e != api.OK || len(made) != 2 {
		t.Fatalf("%v, %d", made, e)
	}
	laySet(made[0])
	if !slices.Equal(made[1].Owner, of("a.")) || !alike(made[1].Data[0], host("a.b.")) {
		t.Errorf("%v", made)
	}
}

// Rule 4: the spare room of a list is no part of it.

func TestSpareRoom(t *testing.T) {
	data := []api.Data{addr(1), addr(1)}
	s := set("a.", api.A, 5, data[:1]...)
	if e := rrset.Check(s); e != api.OK {
		t.Errorf("Check = %d", e)
	}
	s.Data = data[:0]
	if e := rrset.Check(s); e != api.ErrMissing {
		t.Errorf("Check = %d", e)
	}
	sets := []api.Set{set("a.", api.A, 5, addr(1)), set("b.", api.A, 5, addr(1))}
	if _, is := rrset.Find(sets[:1], of("b."), api.A); is {
		t.Error("Find looks into the spare room")
	}
}

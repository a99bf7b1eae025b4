package rrset_test

import (
	"cmp"
	"math"
	"math/rand"
	"slices"
	"strings"
	"testing"

	"nomenclator/api"
	"nomenclator/rdata"
	"nomenclator/rrset"
)

// P7.3: Same and SameData.

func TestSame(t *testing.T) {
	class := func(s api.Set, c api.Class) api.Set { s.Class = c; return s }
	owned := func(n ...string) api.Set { s := set(".", api.A, 5, addr(1)); s.Owner = n; return s }
	x, y, z := addr(1), addr(2), addr(3)
	for i, c := range []struct {
		a, b       api.Set
		same, data bool
	}{
		{set("a.", api.A, 5, x, y), set("A.", api.A, 5, y, x), true, true},
		{set("a.", api.A, 5, x, y), set("a.", api.A, 5, x, y), true, true},
		{set("a.", api.A, 5, x, y), set("A.", api.A, 6, y, x), false, true},
		{set("a.", api.A, 0, x), set("a.", api.A, math.MaxUint32, x), false, true},
		{set("a.", api.A, 5, x, y), set("a.", api.A, 5, x), false, false},
		{set("a.", api.A, 5, x, y), set("a.", api.A, 5, y), false, false},
		{set("a.", api.A, 5, x, y), set("a.", api.A, 5, y, z), false, false},
		{set("a.", api.A, 5, x, y), set("a.", api.A, 5, x, y, z), false, false},
		{set("a.", api.A, 5, x, y), set("b.", api.A, 5, x, y), false, false},
		{set("a.", api.A, 5, x, y), set("a.a.", api.A, 5, x, y), false, false},
		{set("a.", api.A, 5, x), set("a.", 99, 5, x), false, false},
		{set("a.", 98, 5, x), set("a.", 99, 5, x), false, false},
		{set("a.", api.A, 5, x), class(set("a.", api.A, 5, x), 3), false, false},
		{class(set("a.", api.A, 5, x), 3), class(set("a.", api.A, 5, x), 3), true, true},
		{set("a.", api.NS, 5, host("B."), host("c.")), set("a.", api.NS, 5, host("C."), host("b.")), true, true},
		{set("a.", api.TXT, 5, text("B")), set("a.", api.TXT, 5, text("b")), false, false},
		// Of any sets: some of the same data twice, none, more than may be, owners that may not be.
		{set("a.", api.A, 5, x, x), set("a.", api.A, 5, x), true, true},
		{set("a.", api.A, 5, x, x, y), set("a.", api.A, 5, y, y, x), true, true},
		{set("a.", api.A, 5, x, x), set("a.", api.A, 5, x, y), false, false},
		{set("a.", api.NS, 5, host("b."), host("B.")), set("a.", api.NS, 5, host("b.")), true, true},
		{set("a.", api.A, 5), set("A.", api.A, 5), true, true},
		{set("a.", api.A, 5), set("A.", api.A, 6), false, true},
		{set("a.", api.ANY, 5), set("a.", api.ANY, 5), true, true},
		{set("a.", api.A, 5), set("b.", api.A, 5), false, false},
		{set("a.", api.A, 5), set("a.", api.NS, 5), false, false},
		{set("a.", api.A, 5), set("a.", api.A, 5, x), false, false},
		{set("a.", api.A, 5, addrs(600)...), set("a.", api.A, 5, addrs(600)...), true, true},
		{set("a.", api.A, 5, addrs(600)...), set("a.", api.A, 5, addrs(599)...), false, false},
		{owned("a", ""), owned("A", ""), true, true},
		{owned("a", ""), owned("a"), false, false},
		{owned("", "a"), owned("a", ""), false, false},
		{owned(strings.Repeat("q", 300)), owned(strings.Repeat("Q", 300)), true, true},
		{api.Set{}, api.Set{}, true, true},
		// Data that may not be are the same as none.
		{set("a.", api.A, 5, raw(1)), set("a.", api.A, 5, raw(1)), false, false},
		{set("a.", api.A, 5, x, raw(1)), set("a.", api.A, 5, x, raw(1)), false, false},
		{set("a.", api.A, 5, x, raw(1)), set("a.", api.A, 5, x), false, false},
		{set("a.", api.A, 5, raw(1), x), set("a.", api.A, 5, x), false, false},
		{set("a.", api.A, 5, raw(1)), set("a.", api.A, 5), false, false},
		{set("a.", api.ANY, 5, raw(1)), set("a.", api.ANY, 5, raw(1)), false, false},
		{set("a.", 0, 5, raw(1)), set("a.", 0, 5, raw(1)), false, false},
	} {
		if got := rrset.Same(c.a, c.b); got != c.same {
			t.Errorf("%d: Same = %v", i, got)
		}
		if got := rrset.Same(c.b, c.a); got != c.same {
			t.Errorf("%d: Same turned about = %v", i, got)
		}
		if got := rrset.SameData(c.a, c.b); got != c.data {
			t.Errorf("%d: SameData = %v", i, got)
		}
		if got := rrset.SameData(c.b, c.a); got != c.data {
			t.Errorf("%d: SameData turned about = %v", i, got)
		}
	}
}

// someSet tells any set, now and then one that may not be.
func someSet(r *rand.Rand) api.Set {
	typ := pick(r, api.A, api.NS, api.MX, api.TXT, 99)
	s := api.Set{Owner: of(pick(r, "a.", "A.", "b.", "a.b.", "B.b.", ".")), Type: typ, Class: pick(r, api.IN, api.IN, 3, 0), TTL: uint32(r.Intn(2))}
	for range r.Intn(5) {
		s.Data = append(s.Data, some(r, typ))
	}
	if r.Intn(8) == 0 {
		s.Data = append(s.Data, pick(r, noData...).d)
	}
	if r.Intn(8) == 0 {
		s.Owner = pick(r, noOwners...).n
	}
	return s
}

// P7.3: SameData is what its words say, data by data.

func TestSameModel(t *testing.T) {
	r := rand.New(rand.NewSource(5))
	within := func(a, b api.Set) bool {
		for _, d := range a.Data {
			if !slices.ContainsFunc(b.Data, func(o api.Data) bool { return rdata.Same(a.Type, d, o) }) {
				return false
			}
		}
		return true
	}
	yes := 0
	for range 20000 {
		a, b := someSet(r), someSet(r)
		if r.Intn(2) == 0 {
			b.Owner, b.Type, b.Class = a.Owner, a.Type, a.Class
			b.Data = nil
			for range r.Intn(4) {
				b.Data = append(b.Data, some(r, a.Type))
			}
			b.Data = append(b.Data, a.Data[:r.Intn(len(a.Data)+1)]...)
		}
		want := told(a.Owner) == told(b.Owner) && a.Type == b.Type && a.Class == b.Class && within(a, b) && within(b, a)
		if rrset.SameData(a, b) != want || rrset.Same(a, b) != (want && a.TTL == b.TTL) {
			t.Fatalf("%v, %v: %v, %v", a, b, rrset.SameData(a, b), rrset.Same(a, b))
		}
		if want {
			yes++
		}
	}
	if yes < 500 {
		t.Errorf("%d alone were the same", yes)
	}
}

// P7.3: Find.

func TestFind(t *testing.T) {
	other := func(c api.Class, l ...api.Data) api.Set { s := set("a.", api.A, 5, l...); s.Class = c; return s }
	l := []api.Set{other(3, addr(9)), other(0, addr(8)), set("b.", api.A, 1, addr(1)), set("A.", api.A, 2, addr(2)), set("a.", api.A, 3, addr(3)), set("a.", api.NS, 4, host("X.")), other(255, addr(7)), set("a.b.", api.A, 5), set("c.", api.ANY, 6), {Owner: label0, Type: 0, Class: api.IN, TTL: 7, Data: []api.Data{{}}}, {Owner: of("d."), Type: api.A, Class: 3, Data: addrs(1)}, set(".", api.A, 8, raw(1))}
	for i, c := range []struct {
		n  api.Name
		t  api.Type
		at int
	}{
		{of("a."), api.A, 3}, {of("A."), api.A, 3}, {of("B."), api.A, 2}, {of("a."), api.NS, 5}, {of("A.B."), api.A, 7}, {of("c."), api.ANY, 8}, {api.Name{"A", ""}, 0, 9}, {of("."), api.A, 11}, {nil, api.A, 11}, {api.Name{}, api.A, 11},
		{of("a."), api.AAAA, -1}, {of("A."), api.MX, -1}, {of("a."), api.ANY, -1}, {of("a."), 0, -1}, {of("d."), api.A, -1}, {of("e."), api.A, -1}, {of("a.a."), api.A, -1}, {of("."), api.NS, -1}, {label64, api.A, -1}, {of("b.a."), api.A, -1}, {of("c."), api.A, -1},
	} {
		s, is := rrset.Find(l, c.n, c.t)
		want := api.Set{}
		if c.at >= 0 {
			want = l[c.at]
		}
		if is != (c.at >= 0) || !equal(s, want) {
			t.Errorf("%d: Find(%q, %d) = %v, %v", i, c.n, c.t, s, is)
		}
	}
	for _, l := range [][]api.Set{nil, {}, {{}}} {
		if s, is := rrset.Find(l, nil, 0); is || !empty(s) {
			t.Errorf("Find(%v) = %v, %v", l, s, is)
		}
	}
}

// P7.3: Sort.

func TestSort(t *testing.T) {
	class := func(s api.Set, c api.Class) api.Set { s.Class = c; return s }
	for i, c := range []struct{ l, want []api.Set }{
		{nil, nil}, {[]api.Set{}, nil}, {[]api.Set{{}}, []api.Set{{}}},
		{[]api.Set{set("b.", api.A, 1), set("a.", api.MX, 2), set("a.", api.A, 3)}, []api.Set{set("a.", api.A, 3), set("a.", api.MX, 2), set("b.", api.A, 1)}},
		// Names in their order, from the last label on, a name ahead of all under it.
		{[]api.Set{set("c.", 1, 0), set("z.a.", 1, 0), set("a.b.", 1, 0), set("b.", 1, 0), set("a.", 1, 0), set(".", 1, 0)}, []api.Set{set(".", 1, 0), set("a.", 1, 0), set("z.a.", 1, 0), set("b.", 1, 0), set("a.b.", 1, 0), set("c.", 1, 0)}},
		// The owner ahead of the type, the type ahead of the class; numbers, not their bytes or texts.
		{[]api.Set{set("b.", 1, 0), set("a.", 257, 0), set("a.", 65535, 0), set("a.", 15, 0), set("a.", 9, 0)}, []api.Set{set("a.", 9, 0), set("a.", 15, 0), set("a.", 257, 0), set("a.", 65535, 0), set("b.", 1, 0)}},
		{[]api.Set{class(set("a.", 2, 0), 1), class(set("a.", 1, 0), 255), class(set("a.", 1, 0), 256), class(set("a.", 1, 0), 3), class(set("A.", 1, 0), 0)}, []api.Set{class(set("A.", 1, 0), 0), class(set("a.", 1, 0), 3), class(set("a.", 1, 0), 255), class(set("a.", 1, 0), 256), class(set("a.", 2, 0), 1)}},
		// Those of one owner, type and class stay as they stood, whatever their TTLs, data and letters are.
		{[]api.Set{set("b.", 1, 9), set("a.", 1, 9, addr(9)), set("A.", 1, 1, addr(1)), set("a.", 1, 5), set("B.", 1, 3)}, []api.Set{set("a.", 1, 9, addr(9)), set("A.", 1, 1, addr(1)), set("a.", 1, 5), set("b.", 1, 9), set("B.", 1, 3)}},
		// Owners and data that may not be, too; data stay in their places.
		{[]api.Set{{Owner: label0, TTL: 1}, {Owner: api.Name{""}, TTL: 2, Data: []api.Data{addr(2), addr(1), raw()}}, {TTL: 3}}, []api.Set{{TTL: 3}, {Owner: api.Name{""}, TTL: 2, Data: []api.Data{addr(2), addr(1), raw()}}, {Owner: label0, TTL: 1}}},
	} {
		if got := rrset.Sort(c.l); !slices.EqualFunc(got, c.want, equal) {
			t.Errorf("%d: Sort = %v", i, got)
		}
	}
}

// compareTold holds names against each other, label by label from the last one on.
func compareTold(a, b api.Name) int {
	turn := func(n api.Name) []string {
		var l []string
		for _, s := range n {
			l = append([]string{plain(s)}, l...)
		}
		return l
	}
	return slices.Compare(turn(a), turn(b))
}

// P7.4: Sort tells the same sets, rising, and those that are equal as they stood.

func TestSortFollows(t *testing.T) {
	r := rand.New(rand.NewSource(6))
	for round := range 300 {
		l := make([]api.Set, r.Intn(2+round))
		for i := range l {
			l[i] = someSet(r)
			l[i].TTL = uint32(i) // by which each is known again
		}
		got := rrset.Sort(l)
		if len(got) != len(l) {
			t.Fatalf("%d sets of %d", len(got), len(l))
		}
		seen := map[uint32]int{}
		for i, s := range got {
			if int(s.TTL) >= len(l) || !equal(s, l[s.TTL]) {
				t.Fatalf("%v is not one that was given", s)
			}
			seen[s.TTL]++
			if i == 0 {
				continue
			}
			p := got[i-1]
			if cmp.Or(compareTold(p.Owner, s.Owner), int(p.Type)-int(s.Type), int(p.Class)-int(s.Class), int(p.TTL)-int(s.TTL)) >= 0 {
				t.Fatalf("%v stands ahead of %v", p, s)
			}
		}
		if len(seen) != len(l) {
			t.Fatalf("%d sets of %d", len(seen), len(l))
		}
	}
}

// P7.3: Canon.

func TestCanon(t *testing.T) {
	for i, c := range []struct{ s, want api.Set }{
		{set("A.b.", api.A, 5, addr(3), addr(1), addr(2)), set("A.b.", api.A, 5, addr(1), addr(2), addr(3))},
		{set("a.", api.A, 5, addr(256), addr(255), addr(128), addr(127)), set("a.", api.A, 5, addr(127), addr(128), addr(255), addr(256))},
		{set("a.", api.A, 5), set("a.", api.A, 5)}, {api.Set{}, api.Set{}}, {set("a.", api.A, math.MaxUint32, addr(1)), set("a.", api.A, math.MaxUint32, addr(1))},
		{set("a.", api.NS, 5, host("aa."), host("C."), host("b."), host(".")), set("a.", api.NS, 5, host("."), host("b."), host("C."), host("aa."))},
		{set("a.", api.MX, 5, mx(256, "a."), mx(9, "z."), mx(9, "B."), mx(10, "a.")), set("a.", api.MX, 5, mx(9, "B."), mx(9, "z."), mx(10, "a."), mx(256, "a."))},
		{set("a.", api.TXT, 5, text("b"), text("a", ""), text("a"), text("B"), text("")), set("a.", api.TXT, 5, text(""), text("B"), text("a"), text("a", ""), text("b"))},
		{set("a.", 99, 5, raw(2), raw(1, 255), raw(1), raw()), set("a.", 99, 5, raw(), raw(1), raw(1, 255), raw(2))},
		// Data that are the same stay as they stood.
		{set("a.", api.NS, 5, host("b."), host("a."), host("A."), host("B."), host("a.")), set("a.", api.NS, 5, host("a."), host("A."), host("a."), host("b."), host("B."))},
		{set("a.", api.A, 5, addr(2), addr(2), addr(1)), set("a.", api.A, 5, addr(1), addr(2), addr(2))},
		// Owners that may not be and any class count for nothing.
		{api.Set{Owner: label0, Type: 99, Class: 7, TTL: 1, Data: []api.Data{raw(2), raw(1)}}, api.Set{Owner: label0, Type: 99, Class: 7, TTL: 1, Data: []api.Data{raw(1), raw(2)}}},
	} {
		if got := rrset.Canon(c.s); !equal(got, c.want) {
			t.Errorf("%d: Canon = %v", i, got)
		}
	}
	many := addrs(600)
	turned := slices.Clone(many)
	slices.Reverse(turned)
	if got := rrset.Canon(set("a.", api.A, 5, turned...)); !equal(got, set("a.", api.A, 5, many...)) {
		t.Errorf("Canon of 600: %v", got)
	}
}

// Where rdata.Check refuses one the data stay as they stand.

func TestCanonRefused(t *testing.T) {
	for i, d := range noData {
		three, two, one := fine(d.t, 3), fine(d.t, 2), fine(d.t, 1)
		for _, l := range [][]api.Data{{d.d}, {d.d, three, two, one}, {three, d.d, two, one}, {three, two, one, d.d}, {d.d, d.d}} {
			s := set("b.a.", d.t, 5, l...)
			if got := rrset.Canon(s); !equal(got, s) {
				t.Errorf("%d: Canon = %v", i, got)
			}
		}
	}
}

// P7.3: Canon's order is rdata.Compare's; of the same data it makes the same list, but for letters.

func TestCanonFollows(t *testing.T) {
	r := rand.New(rand.NewSource(7))
	for range 2000 {
		typ := pick(r, api.A, api.NS, api.SOA, api.MX, api.TXT, 99)
		s := set("a.", typ, 5)
		for range r.Intn(30) {
			s.Data = append(s.Data, some(r, typ))
		}
		got := rrset.Canon(s)
		want := slices.Clone(s.Data)
		for i := range want { // one by one up to its place: those that are the same keep their order
			for j := i; j > 0 && rdata.Compare(typ, want[j-1], want[j]) > 0; j-- {
				want[j-1], want[j] = want[j], want[j-1]
			}
		}
		if !equal(got, set("a.", typ, 5, want...)) || !equal(rrset.Canon(got), got) {
			t.Fatalf("Canon(%v) = %v", s, got)
		}
		if !rrset.Same(s, got) {
			t.Fatalf("%v is not %v", got, s)
		}
	}
}

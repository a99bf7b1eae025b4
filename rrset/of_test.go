package rrset_test

import (
	"bytes"
	"fmt"
	"math"
	"math/rand"
	"slices"
	"strings"
	"testing"

	"nomenclator/api"
	"nomenclator/rdata"
	"nomenclator/rrset"
)

// P7.2: Of.

func TestOf(t *testing.T) {
	in3 := func(r api.Record) api.Record { r.Class = 3; return r }
	set3 := func(s api.Set) api.Set { s.Class = 3; return s }
	for i, c := range []struct {
		l    []api.Record
		want []api.Set
	}{
		{nil, nil},
		{[]api.Record{}, nil},
		{[]api.Record{record("a.", api.A, 9, addr(1)), record("A.", api.A, 5, addr(1)), record("a.", api.A, 7, addr(2))}, []api.Set{set("a.", api.A, 5, addr(1), addr(2))}},
		{[]api.Record{record("A.", api.A, 5, addr(2)), record("a.", api.A, 5, addr(1))}, []api.Set{set("A.", api.A, 5, addr(2), addr(1))}},
		// The least TTL, wherever it stands, of data that are there already, too.
		{[]api.Record{record("a.", api.A, 0, addr(1)), record("a.", api.A, 1, addr(2)), record("a.", api.A, math.MaxUint32, addr(3))}, []api.Set{set("a.", api.A, 0, addr(1), addr(2), addr(3))}},
		{[]api.Record{record("a.", api.A, 7, addr(1)), record("a.", api.A, 0, addr(2)), record("a.", api.A, math.MaxUint32, addr(3))}, []api.Set{set("a.", api.A, 0, addr(1), addr(2), addr(3))}},
		{[]api.Record{record("a.", api.A, math.MaxUint32, addr(1)), record("a.", api.A, 8, addr(2)), record("a.", api.A, 7, addr(3))}, []api.Set{set("a.", api.A, 7, addr(1), addr(2), addr(3))}},
		{[]api.Record{record("a.", api.A, 9, addr(1)), record("a.", api.A, 8, addr(1))}, []api.Set{set("a.", api.A, 8, addr(1))}},
		{[]api.Record{record("a.", api.A, math.MaxUint32, addr(1)), record("a.", api.A, math.MaxUint32, addr(1))}, []api.Set{set("a.", api.A, math.MaxUint32, addr(1))}},
		{[]api.Record{record("a.", api.A, math.MaxUint32, addr(1)), record("b.", api.A, 0, addr(1)), record("a.", api.TXT, 1, text(""))}, []api.Set{set("a.", api.A, math.MaxUint32, addr(1)), set("b.", api.A, 0, addr(1)), set("a.", api.TXT, 1, text(""))}},
		// The same data next to each other, and apart: the first one stands.
		{[]api.Record{record("a.", api.NS, 1, host("X.")), record("a.", api.NS, 1, host("x.")), record("a.", api.NS, 1, host("y."))}, []api.Set{set("a.", api.NS, 1, host("X."), host("y."))}},
		{[]api.Record{record("a.", api.NS, 1, host("x.")), record("a.", api.NS, 1, host("y.")), record("A.", api.NS, 1, host("X."))}, []api.Set{set("a.", api.NS, 1, host("x."), host("y."))}},
		{[]api.Record{record("a.", api.TXT, 1, text("x")), record("a.", api.TXT, 1, text("X"))}, []api.Set{set("a.", api.TXT, 1, text("x"), text("X"))}},
		// Owners, types and classes, each of which counts; sets in the order of their first records.
		{[]api.Record{record("b.", api.A, 1, addr(1)), record("a.", api.MX, 2, mx(1, "x.")), record("a.", api.A, 3, addr(1)), record("B.", api.A, 4, addr(2)), record("a.", api.A, 5, addr(0)), record("A.", api.MX, 6, mx(1, "X."))},
			[]api.Set{set("b.", api.A, 1, addr(1), addr(2)), set("a.", api.MX, 2, mx(1, "x.")), set("a.", api.A, 3, addr(1), addr(0))}},
		{[]api.Record{in3(record("a.", api.A, 1, addr(1))), record("a.", api.A, 2, addr(1)), in3(record("A.", api.A, 3, addr(2)))}, []api.Set{set3(set("a.", api.A, 1, addr(1), addr(2))), set("a.", api.A, 2, addr(1))}},
		{[]api.Record{record("a.", 1, 1, addr(1)), record("a.", 257, 2, api.Data{Nums: []uint32{0}, Texts: []string{"a", ""}}), record("a.", 65535, 3, addr(1)), record("a.", 258, 4, addr(1))},
			[]api.Set{set("a.", 1, 1, addr(1)), set("a.", 257, 2, api.Data{Nums: []uint32{0}, Texts: []string{"a", ""}}), set("a.", 65535, 3, addr(1)), set("a.", 258, 4, addr(1))}},
		{[]api.Record{record(".", api.A, 1, addr(1)), record("a.", api.A, 2, addr(1)), record("a.b.", api.A, 3, addr(1)), {Owner: api.Name{"a.b"}, Type: api.A, Class: api.IN, TTL: 4, Data: addr(1)}, {Owner: api.Name{"a\x01b"}, Type: api.A, Class: api.IN, TTL: 5, Data: addr(1)}, record(".", api.A, 6, addr(2))},
			[]api.Set{set(".", api.A, 1, addr(1), addr(2)), set("a.", api.A, 2, addr(1)), set("a.b.", api.A, 3, addr(1)), {Owner: api.Name{"a.b"}, Type: api.A, Class: api.IN, TTL: 4, Data: []api.Data{addr(1)}}, {Owner: api.Name{"a\x01b"}, Type: api.A, Class: api.IN, TTL: 5, Data: []api.Data{addr(1)}}}},
		{[]api.Record{record("\xc3\x89.", api.A, 1, addr(1)), record("\xc3\xa9.", api.A, 1, addr(1)), record("[.", api.A, 1, addr(1)), record("{.", api.A, 1, addr(1))},
			[]api.Set{set("\xc3\x89.", api.A, 1, addr(1)), set("\xc3\xa9.", api.A, 1, addr(1)), set("[.", api.A, 1, addr(1)), set("{.", api.A, 1, addr(1))}},
		{[]api.Record{record(".", api.OPT, 1, raw()), {Owner: name255, Type: 99, TTL: 1, Data: raw()}}, []api.Set{set(".", api.OPT, 1, raw()), {Owner: name255, Type: 99, TTL: 1, Data: []api.Data{raw()}}}},
	} {
		if got, e := rrset.Of(c.l); e != api.OK || !slices.EqualFunc(got, c.want, equal) {
			t.Errorf("%d: Of = %v, %d", i, got, e)
		}
	}
}

// Just 512 data are a set, one more is too long; such as are the same don't count.

func TestOfLong(t *testing.T) {
	many := func(n int) []api.Record {
		var l []api.Record
		for i := range n {
			l = append(l, record("a.", api.A, 5, addr(i)))
		}
		return l
	}
	one := func(n int) api.Record { return record("A.", api.A, 5, addr(n)) }
	other := []api.Record{record("b.", api.A, 5, addr(600)), record("a.", 99, 5, addr(600)), {Owner: of("a."), Type: api.A, Class: 2, TTL: 5, Data: addr(600)}}
	for i, c := range []struct {
		l    []api.Record
		sets int
	}{
		{many(512), 1}, {append(many(512), one(0)), 1}, {append(many(512), one(511), one(3), one(3)), 1}, {append(many(512), many(512)...), 1},
		{append(many(512), other...), 4}, {slices.Concat(other, many(512), other), 4}, {slices.Repeat(many(1), 513), 1}, {slices.Repeat(many(2), 5000), 1},
	} {
		if s, e := rrset.Of(c.l); e != api.OK || len(s) != c.sets {
			t.Errorf("%d: %d sets, %d", i, len(s), e)
		}
	}
	for i, l := range [][]api.Record{many(513), append(many(512), one(512)), append(many(512), one(0), one(512)), slices.Concat(other, many(513), other), append(many(513), one(512)), append([]api.Record{one(512)}, many(512)...), many(3000)} {
		if s, e := rrset.Of(l); e != api.ErrLong || len(s) != 0 {
			t.Errorf("%d: %d sets, %d", i, len(s), e)
		}
	}
	// Many sets are none that is too long.
	var l []api.Record
	for i := range 3000 {
		l = append(l, record(fmt.Sprintf("n%d.", i), api.A, 5, addr(i)))
	}
	if s, e := rrset.Of(l); e != api.OK || len(s) != 3000 {
		t.Errorf("%d sets, %d", len(s), e)
	}
}

// What is wrong with a record: the first record that has something, its owner ahead of its data, all records ahead of a set that is too long.

func TestOfRefuses(t *testing.T) {
	well := []api.Record{record("a.", api.A, 5, addr(1)), record("a.", api.A, 5, addr(1)), record("b.", api.NS, 5, host("a."))}
	long := make([]api.Record, 0, 513)
	for i := range 513 {
		long = append(long, record("a.", api.A, 5, addr(i)))
	}
	refused := func(l []api.Record, want api.Errno) {
		t.Helper()
		if s, e := rrset.Of(l); e != want || len(s) != 0 {
			t.Errorf("Of = %v, %d, not %d", s, e, want)
		}
	}
	around := func(r api.Record, want api.Errno) {
		t.Helper()
		refused([]api.Record{r}, want)
		refused(append([]api.Record{r}, well...), want)
		refused(append(slices.Clone(well), r), want)
		refused(slices.Insert(slices.Clone(well), 1, r), want)
		refused(append([]api.Record{r}, long...), want)
		refused(append(slices.Clone(long), r), want)
	}
	for _, o := range noOwners {
		around(api.Record{Owner: o.n, Type: api.A, Class: api.IN, Data: addr(1)}, o.e)
		for _, d := range noData {
			both := api.Record{Owner: o.n, Type: d.t, Class: api.IN, Data: d.d}
			around(both, o.e)
			refused([]api.Record{record("a.", d.t, 1, d.d), both}, d.e)
			refused([]api.Record{both, record("a.", d.t, 1, d.d)}, o.e)
		}
	}
	for _, d := range noData {
		around(record("a.", d.t, 1, d.d), d.e)
	}
}

// plain tells a label folded, by hand.
func plain(s string) string {
	b := []byte(s)
	for i, c := range b {
		if bytes.IndexByte([]byte("ABCDEFGHIJKLMNOPQRSTUVWXYZ"), c) >= 0 {
			b[i] = c + 32
		}
	}
	return string(b)
}

// told tells a name, or data, so that those that are the same are told the same.
func told(n api.Name) string {
	var l []string
	for _, s := range n {
		l = append(l, fmt.Sprintf("%q", plain(s)))
	}
	return strings.Join(l, ".")
}

func toldData(d api.Data) string {
	var l []string
	for _, n := range d.Names {
		l = append(l, told(n))
	}
	return fmt.Sprintf("%q %v %q %x", l, d.Nums, d.Texts, d.Raw)
}

// model tells the sets of records that may be, record by record against all sets.
func model(l []api.Record) []api.Set {
	var sets []api.Set
	for _, r := range l {
		at := slices.IndexFunc(sets, func(s api.Set) bool {
			return s.Type == r.Type && s.Class == r.Class && told(s.Owner) == told(r.Owner)
		})
		if at < 0 {
			sets = append(sets, api.Set{Owner: r.Owner, Type: r.Type, Class: r.Class, TTL: r.TTL, Data: []api.Data{r.Data}})
			continue
		}
		if r.TTL < sets[at].TTL {
			sets[at].TTL = r.TTL
		}
		if !slices.ContainsFunc(sets[at].Data, func(d api.Data) bool { return toldData(d) == toldData(r.Data) }) {
			sets[at].Data = append(sets[at].Data, r.Data)
		}
	}
	return sets
}

func someRecord(r *rand.Rand) api.Record {
	typ := pick(r, api.A, api.A, api.NS, api.SOA, api.MX, api.TXT, 99, 98)
	return api.Record{Owner: of(pick(r, "a.", "A.", "b.", ".", "a.b.", "A.b.", "ab.")), Type: typ, Class: pick(r, api.IN, api.IN, 3), TTL: pick[uint32](r, 0, 1, 5, 9, math.MaxUint32), Data: some(r, typ)}
}

func someRecords(r *rand.Rand) []api.Record {
	var l []api.Record
	for range r.Intn(40) {
		l = append(l, someRecord(r))
	}
	return l
}

func TestOfModel(t *testing.T) {
	r := rand.New(rand.NewSource(2))
	for range 3000 {
		l := someRecords(r)
		want, none := model(l), api.OK
		if len(l) > 0 && r.Intn(4) == 0 {
			b := &l[r.Intn(len(l))]
			if r.Intn(2) == 0 {
				b.Owner, none = label0, api.ErrLabel
			} else {
				b.Data, none = api.Data{Texts: []string{"a"}, Raw: []byte("b")}, api.ErrData
			}
			want = nil
		}
		if got, e := rrset.Of(l); e != none || !slices.EqualFunc(got, want, equal) {
			t.Fatalf("Of(%v) = %v, %d", l, got, e)
		}
	}
}

// P7.4: Of of what Records tells is the set alone.

func TestOfRecords(t *testing.T) {
	r := rand.New(rand.NewSource(3))
	sets := few()
	for range 500 {
		l, _ := rrset.Of(someRecords(r))
		sets = append(sets, l...)
	}
	for i, s := range sets {
		l, e := rrset.Records(s)
		if e != api.OK {
			t.Fatalf("%d: %d", i, e)
		}
		if again, e := rrset.Of(l); e != api.OK || len(again) != 1 || !equal(again[0], s) {
			t.Fatalf("%d: %v, %d, not %v", i, again, e, s)
		}
	}
}

// P7.4: records turned about make the same sets, pair by pair; each record's data are in just one set; each set may be.

func TestOfTurned(t *testing.T) {
	r := rand.New(rand.NewSource(4))
	for range 1000 {
		l := someRecords(r)
		sets, e := rrset.Of(l)
		if e != api.OK {
			t.Fatal(e)
		}
		turned := slices.Clone(l)
		r.Shuffle(len(l), func(i, j int) { turned[i], turned[j] = turned[j], turned[i] })
		others, e := rrset.Of(turned)
		if e != api.OK || !slices.EqualFunc(rrset.Sort(sets), rrset.Sort(others), rrset.Same) {
			t.Fatalf("%v, %v", sets, others)
		}
		for _, s := range sets {
			if rrset.Check(s) != api.OK {
				t.Fatalf("Check(%v) = %d", s, rrset.Check(s))
			}
		}
		for _, x := range l {
			found := 0
			for _, s := range sets {
				if s.Type == x.Type && s.Class == x.Class && told(s.Owner) == told(x.Owner) {
					found++
					if n := len(slices.DeleteFunc(slices.Clone(s.Data), func(d api.Data) bool { return !rdata.Same(x.Type, d, x.Data) })); n != 1 {
						t.Fatalf("%v is %d times in %v", x, n, s)
					}
				}
			}
			if found != 1 {
				t.Fatalf("%v is in %d sets of %v", x, found, sets)
			}
		}
	}
}

package rrset_test

import (
	"bytes"
	"math"
	"math/rand"
	"slices"
	"strings"
	"testing"

	"nomenclator/api"
	"nomenclator/rdata"
	"nomenclator/rrset"
)

// of tells the name that a text of labels with dots behind them is; the root is a dot alone.
func of(s string) api.Name {
	l := strings.Split(s, ".")
	if s == "." {
		return nil
	}
	return api.Name(l[:len(l)-1])
}

// Data of several types.

func raw(b ...byte) api.Data { return api.Data{Raw: b} }

func addr(n int) api.Data { return raw(1, 2, byte(n>>8), byte(n)) }

func host(s string) api.Data { return api.Data{Names: []api.Name{of(s)}} }

func mx(n uint32, s string) api.Data { return api.Data{Nums: []uint32{n}, Names: []api.Name{of(s)}} }

func text(s ...string) api.Data { return api.Data{Texts: s} }

// addrs tells so many different addresses.
func addrs(n int) []api.Data {
	l := make([]api.Data, n)
	for i := range l {
		l[i] = addr(i)
	}
	return l
}

func set(owner string, t api.Type, ttl uint32, l ...api.Data) api.Set {
	return api.Set{Owner: of(owner), Type: t, Class: api.IN, TTL: ttl, Data: l}
}

func record(owner string, t api.Type, ttl uint32, d api.Data) api.Record {
	return api.Record{Owner: of(owner), Type: t, Class: api.IN, TTL: ttl, Data: d}
}

// Owners that may not be, with their error, and one that just may.
var (
	label0   = api.Name{"a", ""}
	label64  = api.Name{strings.Repeat("a", 64), "b"}
	name256  = api.Name{strings.Repeat("a", 63), strings.Repeat("b", 63), strings.Repeat("c", 63), strings.Repeat("d", 62)}
	name255  = api.Name{strings.Repeat("a", 63), strings.Repeat("b", 63), strings.Repeat("c", 63), strings.Repeat("d", 61)}
	noOwners = []struct {
		n api.Name
		e api.Errno
	}{{label0, api.ErrLabel}, {label64, api.ErrLabel}, {name256, api.ErrName}, {append(api.Name{""}, name256...), api.ErrLabel}}
)

// noData are data that may not be of their type, with their error.
var noData = []struct {
	t api.Type
	d api.Data
	e api.Errno
}{
	{0, raw(1), api.ErrType}, {api.ANY, raw(1), api.ErrType}, {128, api.Data{}, api.ErrType}, {255, addr(1), api.ErrType},
	{api.A, raw(1, 2, 3), api.ErrData}, {api.A, api.Data{}, api.ErrData}, {api.A, api.Data{Raw: []byte{1, 2, 3, 4}, Nums: []uint32{1}}, api.ErrData}, {api.AAAA, addr(1), api.ErrData},
	{api.NS, api.Data{}, api.ErrData}, {api.NS, api.Data{Names: []api.Name{label0}}, api.ErrLabel}, {api.NS, api.Data{Names: []api.Name{name256}}, api.ErrName},
	{api.MX, mx(65536, "a."), api.ErrData}, {api.TXT, api.Data{}, api.ErrData}, {api.TXT, text(strings.Repeat("x", 256)), api.ErrData},
	{99, api.Data{Raw: make([]byte, 65536)}, api.ErrLong}, {99, text(""), api.ErrData},
}

// fine tells data that may be of any type that noData has and that has data.
func fine(t api.Type, n int) api.Data {
	switch t {
	case api.A:
		return addr(n)
	case api.AAAA:
		return api.Data{Raw: append(make([]byte, 15), byte(n))}
	case api.NS:
		return host(string(rune('a'+n)) + ".")
	case api.MX:
		return mx(uint32(n), "a.")
	case api.TXT:
		return text(string(rune('a' + n)))
	}
	return raw(byte(n))
}

// alike tells whether data are field by field the same, letter by letter.
func alike(a, b api.Data) bool {
	return slices.EqualFunc(a.Names, b.Names, slices.Equal[api.Name]) && slices.Equal(a.Nums, b.Nums) && slices.Equal(a.Texts, b.Texts) && bytes.Equal(a.Raw, b.Raw)
}

// equal tells whether sets are field by field the same, letter by letter, the data in their order.
func equal(a, b api.Set) bool {
	return slices.Equal(a.Owner, b.Owner) && a.Type == b.Type && a.Class == b.Class && a.TTL == b.TTL && slices.EqualFunc(a.Data, b.Data, alike)
}

func equalRecords(a, b api.Record) bool {
	return slices.Equal(a.Owner, b.Owner) && a.Type == b.Type && a.Class == b.Class && a.TTL == b.TTL && alike(a.Data, b.Data)
}

func empty(s api.Set) bool { return equal(s, api.Set{}) }

// few are sets that may be.
func few() []api.Set {
	return []api.Set{
		set("a.", api.A, 5, addr(1)),
		set(".", api.A, 0, addr(1), addr(2)),
		set("WwW.b.", api.A, math.MaxUint32, addrs(512)...),
		set("a.", api.NS, 7, host("b."), host("A."), host(".")),
		set("a.", api.MX, 7, mx(1, "a."), mx(2, "a."), mx(1, "b.")),
		set("a.", api.TXT, 7, text("a"), text("A"), text("a", ""), text("")),
		set("a.", 99, 7, raw(), raw(1), raw(1, 0)),
		set("a.", api.OPT, 7, raw()),
		{Owner: name255, Type: 65535, Class: 65535, TTL: 1, Data: []api.Data{raw(1)}},
		{Owner: of("a."), Type: api.A, Class: 0, TTL: 1, Data: []api.Data{addr(3)}},
	}
}

// P7.1: Check.

func TestCheckTakes(t *testing.T) {
	for i, s := range few() {
		if e := rrset.Check(s); e != api.OK {
			t.Errorf("%d: %d", i, e)
		}
	}
}

// badSets are sets that may not be, with their error.
func badSets() []badSet {
	a := func(l ...api.Data) api.Set { return set("a.", api.A, 5, l...) }
	l := []badSet{
		{a(), api.ErrMissing},
		{set("a.", api.ANY, 5), api.ErrMissing},
		{api.Set{}, api.ErrMissing},
		{a(addrs(513)...), api.ErrLong},
		{a(addrs(20000)...), api.ErrLong},
		{set("a.", api.ANY, 5, addrs(513)...), api.ErrLong},
		{a(slices.Repeat(addrs(1), 513)...), api.ErrLong},
		{a(slices.Repeat([]api.Data{raw()}, 513)...), api.ErrLong},
		{a(slices.Repeat([]api.Data{raw()}, 512)...), api.ErrData},
		{a(addr(1), addr(1)), api.ErrThere},
		{a(addr(1), addr(2), addr(1)), api.ErrThere},
		{a(addr(2), addr(1), addr(1), addr(3)), api.ErrThere},
		{a(append(addrs(511), addr(0))...), api.ErrThere},
		{a(append(addrs(511), addr(510))...), api.ErrThere},
		{set("a.", api.NS, 5, host("b.c."), host("B.C.")), api.ErrThere},
		{set("a.", api.NS, 5, host("B.c."), host("x."), host("b.C.")), api.ErrThere},
		{set("a.", api.MX, 5, mx(1, "B."), mx(1, "b.")), api.ErrThere},
		{set("a.", api.SRV, 5, api.Data{Nums: []uint32{1, 2, 3}, Names: []api.Name{{"A"}}}, api.Data{Nums: []uint32{1, 2, 3}, Names: []api.Name{{"a"}}}), api.ErrThere},
		{set("a.", api.TXT, 5, text("a"), text("a")), api.ErrThere},
		{set("a.", 99, 5, raw(), api.Data{}), api.ErrThere},
		// Data by data: what comes first counts.
		{a(addr(1), addr(1), raw(1)), api.ErrThere},
		{a(addr(1), raw(1), addr(1)), api.ErrData},
		{a(raw(1), raw(1)), api.ErrData},
	}
	for _, o := range noOwners {
		l = append(l, badSet{api.Set{Owner: o.n, Type: api.A}, o.e}, badSet{api.Set{Owner: o.n, Type: api.A, Data: addrs(513)}, o.e}, badSet{api.Set{Owner: o.n, Type: api.A, Data: []api.Data{raw()}}, o.e}, badSet{api.Set{Owner: o.n, Type: api.A, Data: addrs(2)}, o.e})
	}
	for _, d := range noData {
		l = append(l, badSet{set("a.", d.t, 5, d.d), d.e})
		if d.e != api.ErrType {
			l = append(l, badSet{set("a.", d.t, 5, fine(d.t, 1), d.d), d.e}, badSet{set("a.", d.t, 5, d.d, fine(d.t, 1), fine(d.t, 1)), d.e}, badSet{set("a.", d.t, 5, fine(d.t, 1), fine(d.t, 2), d.d, d.d), d.e})
		}
	}
	return l
}

type badSet struct {
	s api.Set
	e api.Errno
}

func TestCheckRefuses(t *testing.T) {
	for i, b := range badSets() {
		if e := rrset.Check(b.s); e != b.e {
			t.Errorf("%d: Check = %d, not %d", i, e, b.e)
		}
	}
}

// Texts may not be taken for one another where they are laid side by side.

func TestCheckTellsApart(t *testing.T) {
	for i, s := range []api.Set{
		set("a.", api.TXT, 1, text("ab"), text("a", "b"), text("", "ab"), text("ab", ""), text("\x01b"), text("", "b")),
		set("a.", api.CAA, 1, api.Data{Nums: []uint32{1}, Texts: []string{"a", "bc"}}, api.Data{Nums: []uint32{1}, Texts: []string{"ab", "c"}}),
		set("a.", api.NS, 1, api.Data{Names: []api.Name{{"a.b"}}}, api.Data{Names: []api.Name{{"a", "b"}}}, api.Data{Names: []api.Name{{"\xc3\x89"}}}, api.Data{Names: []api.Name{{"\xc3\xa9"}}}),
		set("a.", 99, 1, raw('A'), raw('a')),
	} {
		if e := rrset.Check(s); e != api.OK {
			t.Errorf("%d: %d", i, e)
		}
	}
}

// P7.2: Records.

func TestRecords(t *testing.T) {
	for i, s := range few() {
		l, e := rrset.Records(s)
		if e != api.OK || len(l) != len(s.Data) {
			t.Fatalf("%d: %v, %d", i, l, e)
		}
		for j, r := range l {
			if !equalRecords(r, api.Record{Owner: s.Owner, Type: s.Type, Class: s.Class, TTL: s.TTL, Data: s.Data[j]}) {
				t.Errorf("%d: %d: %v", i, j, r)
			}
		}
	}
	for i, b := range badSets() {
		if l, e := rrset.Records(b.s); e != b.e || len(l) != 0 {
			t.Errorf("%d: Records = %v, %d, not %d", i, l, e, b.e)
		}
	}
}

// P7.2: Add.

func TestAdd(t *testing.T) {
	two := set("A.b.", api.NS, 9, host("x."), host("Y."))
	full := set("a.", api.A, 9, addrs(512)...)
	nearly := set("a.", api.A, 9, addrs(511)...)
	for i, c := range []struct {
		s    api.Set
		d    api.Data
		want api.Set
		more bool
		e    api.Errno
	}{
		{two, host("z."), set("A.b.", api.NS, 9, host("x."), host("Y."), host("z.")), true, api.OK},
		{two, host("."), set("A.b.", api.NS, 9, host("x."), host("Y."), host(".")), true, api.OK},
		{two, host("a."), set("A.b.", api.NS, 9, host("x."), host("Y."), host("a.")), true, api.OK},
		{two, host("x."), two, false, api.OK}, {two, host("y."), two, false, api.OK}, {two, host("X."), two, false, api.OK},
		{nearly, addr(511), full, true, api.OK}, {nearly, addr(510), nearly, false, api.OK}, {nearly, addr(0), nearly, false, api.OK},
		{full, addr(511), full, false, api.OK}, {full, addr(0), full, false, api.OK}, {full, addr(512), api.Set{}, false, api.ErrLong}, {full, raw(1), api.Set{}, false, api.ErrData}, {full, host("a."), api.Set{}, false, api.ErrData},
		{two, addr(1), api.Set{}, false, api.ErrData}, {two, api.Data{}, api.Set{}, false, api.ErrData}, {two, api.Data{Names: []api.Name{label0}}, api.Set{}, false, api.ErrLabel}, {two, api.Data{Names: []api.Name{name256}}, api.Set{}, false, api.ErrName},
		{api.Set{Owner: of("a."), Type: 99, Class: 3, TTL: math.MaxUint32, Data: []api.Data{raw(1)}}, raw(), api.Set{Owner: of("a."), Type: 99, Class: 3, TTL: math.MaxUint32, Data: []api.Data{raw(1), raw()}}, true, api.OK},
		{api.Set{Owner: of("a."), Type: 99, Data: []api.Data{raw(1)}}, api.Data{Raw: make([]byte, 65536)}, api.Set{}, false, api.ErrLong},
	} {
		if s, more, e := rrset.Add(c.s, c.d); !equal(s, c.want) || more != c.more || e != c.e {
			t.Errorf("%d: Add = %v, %v, %d", i, s, more, e)
		}
	}
	for i, b := range badSets() {
		for _, d := range []api.Data{addr(1), addr(9), fine(b.s.Type, 1), fine(b.s.Type, 9), {}} {
			if s, more, e := rrset.Add(b.s, d); e != b.e || more || !empty(s) {
				t.Errorf("%d: Add = %v, %v, %d, not %d", i, s, more, e, b.e)
			}
		}
	}
}

// P7.2: a set is as well made by Add, one by one; what Add tells may be.

func TestAddFollows(t *testing.T) {
	r := rand.New(rand.NewSource(1))
	for range 300 {
		typ := pick(r, api.A, api.NS, api.MX, api.TXT, 99)
		first := some(r, typ)
		s := set("a.", typ, 5, first)
		l := []api.Record{record("a.", typ, 5, first)}
		for range 12 {
			d := some(r, typ)
			l = append(l, record("a.", typ, 5, d))
			there := slices.ContainsFunc(s.Data, func(o api.Data) bool { return rdata.Same(typ, o, d) })
			next, more, e := rrset.Add(s, d)
			if e != api.OK || more == there || rrset.Check(next) != api.OK {
				t.Fatalf("Add(%v, %v) = %v, %v, %d", s, d, next, more, e)
			}
			s = next
		}
		if all, e := rrset.Of(l); e != api.OK || len(all) != 1 || !equal(all[0], s) {
			t.Fatalf("Of(%v) = %v, %d, not %v", l, all, e, s)
		}
	}
}

// P7.3: Copy.

func TestCopy(t *testing.T) {
	all := append(few(), api.Set{}, api.Set{Data: []api.Data{{}, {}}})
	for _, b := range badSets() {
		all = append(all, b.s)
	}
	for i, s := range all {
		if got := rrset.Copy(s); !equal(got, s) {
			t.Errorf("%d: Copy = %v", i, got)
		}
	}
}

func pick[T any](r *rand.Rand, l ...T) T { return l[r.Intn(len(l))] }

// some tells data of a type, of few kinds, so that many are the same, or nearly so.
func some(r *rand.Rand, t api.Type) api.Data {
	owner := pick(r, "a.", "A.", "b.", ".", "a.b.", "A.b.", "a.B.", "ab.")
	switch t {
	case api.A:
		return addr(r.Intn(6))
	case api.NS, api.CNAME, api.PTR:
		return host(owner)
	case api.SOA:
		return api.Data{Names: []api.Name{of(owner), of("c.")}, Nums: []uint32{uint32(r.Intn(2)), 2, 3, 4, 5}}
	case api.MX:
		return mx(uint32(r.Intn(2)), owner)
	case api.TXT:
		return text(pick(r, "a", "A", "", "b")+pick(r, "", "c"), pick(r, "", "a"))
	}
	return raw(bytes.Repeat([]byte{byte('a' ^ r.Intn(2)*32)}, r.Intn(3))...)
}

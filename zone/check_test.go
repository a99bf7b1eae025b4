package zone_test

import (
	"math/rand"
	"slices"
	"strings"
	"testing"

	"nomenclator/api"
	"nomenclator/zone"
)

// P16.1: Check.

var (
	long63  = strings.Repeat("a", 63)
	name255 = api.Name{long63, long63, long63, long63[:61]}
	name256 = api.Name{long63, long63, long63, long63[:62]}
	// Origins and owners that may not be, with their error.
	noNames = []struct {
		n api.Name
		e api.Errno
	}{{api.Name{"a", ""}, api.ErrLabel}, {api.Name{long63 + "a", "a"}, api.ErrLabel}, {name256, api.ErrName}, {append(name256, ""), api.ErrLabel}}
)

// Zones that may be; the lines stand in order.
func TestCheckTakes(t *testing.T) {
	for _, z := range []api.Zone{
		as("a.", apex, soa),
		as("a.", apex, soa, "b.a. NS ns.b.a.", "ns.b.a. A 10.0.0.2", "ns.a. A 10.0.0.1", "www.a. CNAME ns.a."),
		as("a.", apex, soa, "b.a. NS ns.b.a.", "ns.b.a. A 10.0.0.2", "ns.a. A 10.0.0.1", "*.w.a. A 10.0.0.3", "www.a. CNAME ns.a."),
		// Letters count for nothing.
		as("A.", apex, soa, "ns.a. A 10.0.0.1"),
		as("a.", "A. NS ns.a.", soa, "B.a. NS ns.b.a.", "ns.b.A. A 10.0.0.2", "www.A. CNAME ns.a."),
		as("B.A.", "b.a. NS ns.a.", "b.A. SOA a. a. 1 2 3 4 5", "x.B.a. TXT x"),
		// The root is above all names.
		as(".", ". NS ns.", ". SOA ns. a. 1 2 3 4 5", "a. NS ns.a.", "ns.a. A 10.0.0.1", "ns. A 10.0.0.1"),
		as(".", ". A 10.0.0.1", ". NS a.", ". SOA a. a. 1 2 3 4 5", "*. A 10.0.0.3", "a. CNAME a."),
		// Sets of one owner rise by their types, data by their bytes; all stands at the origin but an alias.
		as("a.", "a. A 10.0.0.1", "a. A 10.0.0.2", "a. A 10.0.1.0", "a. NS b.", "a. NS C.", "a. NS aa.", soa, "a. PTR a.", "a. MX 1 b.", "a. MX 2 a.", `a. TXT ""`, `a. TXT "A"`, `a. TXT "a"`, "a. AAAA ::1", `a. TYPE99 \# 0`, `a. TYPE99 \# 1 00`, `a. TYPE65535 \# 0`),
	} {
		checks(t, z, api.OK)
	}
}

// What may stand beside a cut, at it, ahead of its NS set, too, under it, and behind it.
func TestCheckTakesCuts(t *testing.T) {
	for _, z := range []api.Zone{
		as("a.", apex, soa, "aa.a. TXT x", "b.a. A 10.0.0.1", "b.a. NS b.a.", "b.a. NS x.y.b.a.", "b.a. AAAA ::1", "b.b.a. A 10.0.0.1", "x.y.b.a. A 10.0.0.1", "x.y.b.a. AAAA ::1", "bb.a. TXT x", "c.a. TXT x", "d.a. NS b.", "e.a. CNAME x."),
		as("a.", apex, soa, "b.a. NS b.", "*.b.a. A 10.0.0.1", "x.c.a. NS c.a.", "y.x.c.a. AAAA ::1", "y.c.a. NS c.a."),
		// What stands at a name above a cut, or above the NS set's hosts, is beyond nothing.
		as("a.", apex, soa, "c.a. TXT x", "x.c.a. NS c.a.", "x.x.c.a. A 10.0.0.1", "y.c.a. TXT x"),
		// The origin's own NS set cuts nothing off.
		as("b.a.", "b.a. NS b.a.", "b.a. SOA a. a. 1 2 3 4 5", "b.a. TXT x", "x.b.a. TXT x", "y.b.a. CNAME x."),
		as(".", ". NS a.", ". SOA a. a. 1 2 3 4 5", "a. TXT x", "b. NS b.", "b.b. A 10.0.0.1", "c. TXT x"),
		as("a.", apex, soa, "b.a. NS b.", "B.A. AAAA ::1", "x.B.A. A 10.0.0.1"),
		// A star is no cut's first label, but may stand above one and under one.
		as("a.", apex, soa, "*.a. TXT x", "b.*.a. NS b.", "**.a. NS b.", "b.a. NS *.a.", "*.b.a. A 10.0.0.1"),
	} {
		checks(t, z, api.OK)
	}
}

// Lines that stand in order, and what is wrong with them.
func TestCheckRefuses(t *testing.T) {
	for _, c := range []struct {
		e api.Errno
		l []string
	}{
		// Sets that do not rise.
		{api.ErrOrder, []string{soa, apex}},
		{api.ErrOrder, []string{"b.a. A 10.0.0.1", apex, soa}},
		{api.ErrOrder, []string{apex, soa, "c.a. A 10.0.0.1", "b.a. A 10.0.0.1"}},
		{api.ErrOrder, []string{apex, soa, "x.b.a. A 10.0.0.1", "b.a. A 10.0.0.1"}},
		{api.ErrOrder, []string{apex, soa, "a.c.a. A 10.0.0.1", "z.b.a. A 10.0.0.1"}},
		{api.ErrOrder, []string{apex, soa, "b.a. TXT x", "B.a. A 10.0.0.1"}},
		{api.ErrOrder, []string{apex, soa, "b.a. AAAA ::1", "b.a. TXT x"}},
		{api.ErrOrder, []string{apex, soa, `b.a. TYPE65535 \# 0`, `b.a. TYPE300 \# 0`}},
		// Two sets of one owner and type.
		{api.ErrOrder, []string{apex, part, apex, soa}},
		{api.ErrOrder, []string{apex, soa, part, soa}},
		{api.ErrOrder, []string{apex, soa, "b.a. A 10.0.0.1", part, "b.a. A 10.0.0.2"}},
		{api.ErrOrder, []string{apex, soa, "b.a. A 10.0.0.1", "B.a. A 10.0.0.2"}},
		{api.ErrOrder, []string{apex, soa, "B.a. A 10.0.0.1", "b.A. A 10.0.0.1"}},
		{api.ErrOrder, []string{apex, soa, "b.a. A 10.0.0.1", "b.a. CH A 10.0.0.1"}},
		{api.ErrOrder, []string{apex, soa, "b.a. CH A 10.0.0.1", "b.a. HS A 10.0.0.1"}},
		{api.ErrOrder, []string{apex, soa, "b.a. A 10.0.0.1", "b.a. TXT x", "B.a. A 10.0.0.2"}},
		// Data that do not rise.
		{api.ErrOrder, []string{apex, soa, "b.a. A 10.0.0.2", "b.a. A 10.0.0.1"}},
		{api.ErrOrder, []string{apex, soa, "b.a. A 10.0.0.1", "b.a. A 10.0.0.3", "b.a. A 10.0.0.2"}},
		{api.ErrOrder, []string{"a. NS aa.", "a. NS b.", soa}},
		{api.ErrOrder, []string{"a. NS C.", "a. NS b.", soa}},
		{api.ErrOrder, []string{apex, soa, "b.a. MX 256 a.", "b.a. MX 1 b."}},
		{api.ErrOrder, []string{apex, soa, "z.a. TXT b", "z.a. TXT a"}},
		// A datum twice is told by the set.
		{api.ErrThere, []string{apex, soa, "b.a. A 10.0.0.1", "b.a. A 10.0.0.1"}},
		{api.ErrThere, []string{"a. NS b.", "a. NS B.", soa}},
		{api.ErrThere, []string{apex, soa, "b.a. A 10.0.0.1", "b.a. A 10.0.0.2", "b.a. A 10.0.0.1"}},
		// Classes.
		{api.ErrClass, with("z.a. CH A 10.0.0.1")},
		{api.ErrClass, with("z.a. CLASS0 A 10.0.0.1")},
		{api.ErrClass, with("z.a. CLASS2 A 10.0.0.1")},
		{api.ErrClass, with("z.a. CLASS255 A 10.0.0.1")},
		{api.ErrClass, with("z.a. CLASS257 A 10.0.0.1")},
		{api.ErrClass, []string{"a. CH NS ns.a.", soa}},
		{api.ErrClass, []string{apex, "a. CH SOA ns.a. a. 1 2 3 4 30"}},
		// Owners above the origin and beside it; and such as have its letters in their midst.
		{api.ErrOutside, []string{". A 10.0.0.1", apex, soa}},
		{api.ErrOutside, []string{apex, soa, "b. A 10.0.0.1"}},
		{api.ErrOutside, []string{apex, soa, "aa. A 10.0.0.1"}},
		{api.ErrOutside, []string{apex, soa, "x.aa. A 10.0.0.1"}},
		{api.ErrOutside, []string{apex, soa, "a.b. A 10.0.0.1"}},
		{api.ErrOutside, []string{apex, soa, `x\.a. A 10.0.0.1`}},
		{api.ErrOutside, []string{"*. A 10.0.0.1", apex, soa}},
		// The SOA.
		{api.ErrSOA, nil},
		{api.ErrSOA, []string{apex}},
		{api.ErrSOA, []string{"a. A 10.0.0.1", apex, "b.a. NS ns.a."}},
		{api.ErrSOA, []string{apex, soa, "a. SOA ns.a. a. 1 2 3 4 31"}},
		{api.ErrSOA, []string{apex, "b.a. SOA ns.a. a. 1 2 3 4 30"}},
		{api.ErrSOA, []string{apex, soa, "b.a. SOA ns.a. a. 1 2 3 4 30"}},
		{api.ErrSOA, []string{apex, soa, "b.a. NS ns.a.", "b.a. SOA ns.a. a. 1 2 3 4 30"}},
		// The origin's NS set.
		{api.ErrApex, []string{soa}},
		{api.ErrApex, []string{"a. A 10.0.0.1", soa, "b.a. NS ns.a."}},
		{api.ErrApex, []string{soa, "a.a. NS ns.a."}},
		// Aliases.
		{api.ErrAlias, []string{apex, "a. CNAME b.a.", soa}},
		{api.ErrAlias, []string{apex, "A. CNAME b.a.", soa}},
		{api.ErrAlias, []string{apex, soa, "b.a. CNAME b.", "b.a. CNAME c."}},
		{api.ErrAlias, []string{apex, soa, "b.a. A 10.0.0.1", "b.a. CNAME b."}},
		{api.ErrAlias, []string{apex, soa, "b.a. CNAME b.", "b.a. TXT x"}},
		{api.ErrAlias, []string{apex, soa, "b.a. A 10.0.0.1", "b.a. PTR a.", "c.a. A 10.0.0.1", "C.a. CNAME b."}},
		{api.ErrAlias, []string{apex, soa, "b.a. NS b.", "b.a. CNAME c."}},
		{api.ErrAlias, []string{apex, soa, "b.a. CNAME b.", `B.a. TYPE65535 \# 0`}},
		{api.ErrAlias, []string{apex, soa, "*.a. CNAME b.", "*.a. AAAA ::1"}},
		// Stars.
		{api.ErrStar, []string{apex, soa, "*.a. NS b."}},
		{api.ErrStar, []string{apex, soa, "*.b.a. NS b."}},
		{api.ErrStar, []string{apex, soa, "*.a. NS b.", "x.*.a. TXT x"}},
		{api.ErrStar, []string{apex, soa, "b.a. NS b.", "*.b.a. NS b."}},
		// What is beyond a cut, at it, ahead of its NS set and behind it, and under it.
		{api.ErrOccluded, []string{apex, soa, "b.a. NS b.", "b.a. PTR x."}},
		{api.ErrOccluded, []string{apex, soa, "b.a. NS b.", "b.a. TXT x"}},
		{api.ErrOccluded, []string{apex, soa, "b.a. NS b.", `b.a. TYPE3 \# 0`}},
		{api.ErrOccluded, []string{apex, soa, "b.a. NS b.", `b.a. TYPE27 \# 0`}},
		{api.ErrOccluded, []string{apex, soa, "b.a. NS b.", `b.a. TYPE65535 \# 0`}},
		{api.ErrOccluded, []string{apex, soa, "b.a. A 10.0.0.1", "b.a. NS b.", "b.a. AAAA ::1", "b.a. SRV 1 2 3 b."}},
		{api.ErrOccluded, []string{apex, soa, "b.a. NS b.", "x.b.a. TXT x"}},
		{api.ErrOccluded, []string{apex, soa, "b.a. NS b.", "x.b.a. CNAME x."}},
		{api.ErrOccluded, []string{apex, soa, "b.a. NS b.", `x.b.a. TYPE99 \# 0`}},
		{api.ErrOccluded, []string{apex, soa, "b.a. NS b.", "x.b.a. A 10.0.0.1", "y.x.b.a. PTR b."}},
		{api.ErrOccluded, []string{apex, soa, "b.a. NS b.", "x.B.a. A 10.0.0.1", "x.b.A. MX 1 b."}},
		{api.ErrOccluded, []string{apex, soa, "b.a. NS b.", "*.b.a. TXT x"}},
		{api.ErrOccluded, []string{apex, soa, "B.a. NS b.", "c.b.a. NS b."}},
		{api.ErrOccluded, []string{apex, soa, "b.a. NS b.", "z.y.x.b.a. NS b."}},
		{api.ErrOccluded, []string{apex, soa, "b.a. NS b.", "c.a. NS b.", "x.c.a. A 10.0.0.1", "x.c.a. TXT x"}},
	} {
		checks(t, as("a.", c.l...), c.e)
	}
	// Below the root, and where the origin's first label is the star.
	checks(t, as(".", ". NS a.", ". SOA a. a. 1 2 3 4 5", "a. NS b.", "b.a. TXT x"), api.ErrOccluded)
	checks(t, as(".", ". NS a.", ". SOA a. a. 1 2 3 4 5", "*. NS b."), api.ErrStar)
	checks(t, as(".", ". NS a.", ". CNAME a.", ". SOA a. a. 1 2 3 4 5"), api.ErrAlias)
	checks(t, as(".", "a. NS a.", "a. SOA a. a. 1 2 3 4 5"), api.ErrSOA)
	checks(t, as(".", ". SOA a. a. 1 2 3 4 5", "a. NS a."), api.ErrApex)
	checks(t, as("*.a.", "*.a. NS a.", "*.a. SOA a. a. 1 2 3 4 5"), api.ErrStar)
}

// The origin is looked at ahead of all else.
func TestCheckOrigin(t *testing.T) {
	for _, o := range noNames {
		checks(t, api.Zone{Origin: o.n}, o.e)
		checks(t, api.Zone{Origin: o.n, Sets: []api.Set{{Owner: o.n, Type: api.SOA}}}, o.e)
		checks(t, api.Zone{Origin: o.n, Sets: []api.Set{set("a.", api.A, addrs(2049)...)}}, o.e)
		checks(t, api.Zone{Origin: of("a."), Sets: []api.Set{{Owner: o.n, Type: api.A, Class: 1, Data: addrs(1)}}}, o.e)
	}
	z := api.Zone{Origin: name255, Sets: as("a.", apex, soa).Sets}
	checks(t, z, api.ErrOutside)
	z.Sets[0].Owner, z.Sets[1].Owner = name255, name255
	checks(t, z, api.OK)
	checks(t, api.Zone{}, api.ErrSOA)
	checks(t, api.Zone{Sets: []api.Set{}, Origin: api.Name{}}, api.ErrSOA)
	checks(t, api.Zone{Sets: []api.Set{{}}}, api.ErrMissing)
}

// full tells a zone of so many data: in sets of so many addresses each, the last one of fewer.
func full(count, each int) api.Zone {
	z := as("a.", apex, soa)
	for left := count - 2; left > 0; left -= each {
		i := len(z.Sets)
		s := set("a.", api.A, addrs(min(left, each))...)
		s.Owner = api.Name{string([]byte{'n', byte('a' + i/26/26), byte('a' + i/26%26), byte('a' + i%26)}), "a"}
		z.Sets = append(z.Sets, s)
	}
	return z
}

// 2,048 data in all, and one more.
func TestCheckLong(t *testing.T) {
	for _, each := range []int{1, 2, 3, 100, 409, 511, 512} {
		checks(t, full(2047, each), api.OK)
		checks(t, full(2048, each), api.OK)
		checks(t, full(2049, each), api.ErrLong)
		z := full(2049, each)
		z.Sets[0].Data, z.Sets[1].Owner = nil, nil
		checks(t, z, api.ErrMissing)
		z.Sets[1].Data = append(z.Sets[1].Data, api.Data{})
		checks(t, z, api.ErrLong)
	}
	// In one set: what is wrong with a set ahead of it is told, while all together have no more than may be.
	for _, c := range []struct {
		count int
		e, f  api.Errno
	}{{511, api.OK, api.ErrMissing}, {512, api.OK, api.ErrMissing}, {513, api.ErrLong, api.ErrMissing}, {2046, api.ErrLong, api.ErrMissing}, {2047, api.ErrLong, api.ErrLong}, {2049, api.ErrLong, api.ErrLong}} {
		z := as("a.", apex, soa)
		z.Sets = append(z.Sets, set("z.a.", api.A, addrs(c.count)...))
		checks(t, z, c.e)
		z.Sets = slices.Insert(z.Sets, 2, set("b.a.", api.TXT))
		checks(t, z, c.f)
	}
	// Sets without data count for none; of so many the first is told.
	z := as("a.", apex, soa)
	z.Sets = append(z.Sets, slices.Repeat([]api.Set{set("z.a.", api.A)}, 100000)...)
	checks(t, z, api.ErrMissing)
}

// noSets are sets that may not be, with their error.
func noSets() []faulty {
	raw := func(b ...byte) api.Data { return api.Data{Raw: b} }
	l := []faulty{
		{inSet, api.ErrMissing, add(set("q.a.", api.A))},
		{inSet, api.ErrMissing, add(set("q.a.", api.ANY))},
		{inSet, api.ErrLong, add(set("q.a.", api.A, addrs(513)...))},
		{inSet, api.ErrType, add(set("q.a.", 0, raw(1)))},
		{inSet, api.ErrType, add(set("q.a.", api.ANY, raw(1)))},
		{inSet, api.ErrType, add(set("q.a.", 128, raw(1)))},
		{inSet, api.ErrData, add(set("q.a.", api.A, raw(1, 2, 3)))},
		{inSet, api.ErrData, add(set("q.a.", api.A, addr(1), addr(2), host("a.")))},
		{inSet, api.ErrLabel, add(set("q.a.", api.NS, api.Data{Names: []api.Name{{""}}}))},
		{inSet, api.ErrName, add(set("q.a.", api.NS, api.Data{Names: []api.Name{name256}}))},
		{inSet, api.ErrLong, add(set("q.a.", 99, api.Data{Raw: make([]byte, 65536)}))},
		{inSet, api.ErrThere, add(set("q.a.", api.A, addr(1), addr(1)))},
		{inSet, api.ErrThere, add(set("q.a.", api.NS, host("b."), host("a."), host("B.")))},
	}
	for _, o := range noNames {
		l = append(l, faulty{inSet, o.e, add(api.Set{Owner: o.n, Type: api.A, Class: 1, Data: addrs(1)})})
	}
	return l
}

// Set by set: of two sets that may not be the first one's error is told; either is told ahead of what is wrong with the whole zone, wherever that stands.
func TestCheckSetBySet(t *testing.T) {
	bad := func(f faulty) api.Set {
		var z api.Zone
		f.make(&z)
		return z.Sets[0]
	}
	base := tidy("a.", example()...)
	for _, f := range noSets() {
		for _, g := range noSets() {
			z := base
			z.Sets = slices.Concat(base.Sets[:2], []api.Set{bad(f)}, base.Sets[2:], []api.Set{bad(g)})
			checks(t, z, f.e)
		}
		for _, l := range [][]string{{"c.a. CH A 10.0.0.1"}, {"c. A 10.0.0.1"}, {"c.a. SOA a. a. 1 2 3 4 5"}, {"www.a. TXT x"}, {"*.a. NS a."}, {"x.b.a. TXT x"}, {"b.a. A 10.0.0.2", "b.a. A 10.0.0.1"}, {"ns.a. A 10.0.0.2"}} {
			z := base
			z.Sets = slices.Concat(sets(l...), []api.Set{bad(f)}, base.Sets)
			checks(t, z, f.e)
			z.Sets = slices.Concat(base.Sets, []api.Set{bad(f)}, sets(l...))
			checks(t, z, f.e)
		}
	}
}

// faulty is what makes a fault of a zone that has none.
type faulty struct {
	kind int
	e    api.Errno
	make func(z *api.Zone)
}

func add(l ...api.Set) func(z *api.Zone) {
	return func(z *api.Zone) { z.Sets = slices.Concat(z.Sets, l) }
}

func lines(l ...string) func(z *api.Zone) { return add(sets(l...)...) }

// lose takes the origin's set of a type away, and lays lines there.
func lose(t api.Type, l ...string) func(z *api.Zone) {
	return func(z *api.Zone) {
		z.Sets = slices.DeleteFunc(slices.Clone(z.Sets), func(s api.Set) bool { return is(s.Owner, of("a.")) && s.Type == t })
		lines(l...)(z)
	}
}

func turned(z *api.Zone) {
	z.Sets = slices.Clone(z.Sets)
	slices.Reverse(z.Sets)
}

func swapped(z *api.Zone) {
	z.Sets = slices.Clone(z.Sets)
	last := len(z.Sets) - 1
	z.Sets[last], z.Sets[last-1] = z.Sets[last-1], z.Sets[last]
}

func doubled(z *api.Zone) { z.Sets = append(slices.Clone(z.Sets), z.Sets[len(z.Sets)-1]) }

// everyFault has each kind of fault, in several ways. Those of the order are made last.
func everyFault() []faulty {
	opt := func(owner string) api.Set { return set(owner, api.OPT, api.Data{}) }
	l := append(noSets(), []faulty{
		{long, api.ErrLong, add(full(2050, 1).Sets[2:]...)},
		{long, api.ErrLong, add(full(2050, 512).Sets[2:]...)},
		{long, api.ErrLong, add(set("q.a.", api.A, addrs(2049)...))},
		{class, api.ErrClass, lines("q.a. CH A 10.0.0.1")},
		{class, api.ErrClass, add(opt("q.a."))},
		{class, api.ErrClass, add(opt("q."))},
		{outside, api.ErrOutside, lines("c. A 10.0.0.1")},
		{outside, api.ErrOutside, lines(". NS a.")},
		{noSOA, api.ErrSOA, lose(api.SOA)},
		{noSOA, api.ErrSOA, lose(api.SOA, soa, "a. SOA ns.a. b. 1 2 3 4 5")},
		{noSOA, api.ErrSOA, lines("q.a. SOA ns.a. b. 1 2 3 4 5")},
		{noApex, api.ErrApex, lose(api.NS)},
		{alias, api.ErrAlias, lines("www.a. A 10.0.0.1")},
		{alias, api.ErrAlias, lines("q.a. CNAME a.", "q.a. CNAME b.")},
		{alias, api.ErrAlias, lines("a. CNAME c.")},
		{alias, api.ErrAlias, lines("b.a. CNAME c.")},
		{starred, api.ErrStar, lines("*.a. NS c.")},
		{starred, api.ErrStar, lines("*.b.a. NS c.")},
		{occluded, api.ErrOccluded, lines("b.a. TXT x")},
		{occluded, api.ErrOccluded, lines("x.b.a. TXT x")},
		{occluded, api.ErrOccluded, lines("x.b.a. NS x.")},
		{order, api.ErrOrder, turned},
		{order, api.ErrOrder, swapped},
		{order, api.ErrOrder, doubled},
		{order, api.ErrOrder, lines("z.a. A 10.0.0.2", "z.a. A 10.0.0.1")},
	}...)
	for _, o := range noNames {
		l = append(l, faulty{origin, o.e, func(z *api.Zone) { z.Origin = o.n }})
	}
	return l
}

// both tells the example's zone with two faults; one that lies in the order is made last.
func both(f, g faulty) api.Zone {
	z := tidy("a.", example()...)
	for _, one := range []faulty{f, g} {
		if one.kind != order {
			one.make(&z)
		}
	}
	slices.SortStableFunc(z.Sets, compare)
	for _, one := range []faulty{f, g} {
		if one.kind == order {
			one.make(&z)
		}
	}
	return z
}

// Of each two faults that a zone has the one whose kind is named first is told.
func TestCheckTwoFaults(t *testing.T) {
	seen := map[[2]int]bool{}
	all := everyFault()
	for _, f := range all {
		checks(t, both(f, faulty{make: func(*api.Zone) {}}), f.e)
		for _, g := range all {
			if f.kind >= g.kind {
				continue
			}
			z := both(f, g)
			if e := zone.Check(z); e != f.e {
				t.Errorf("Check of one with %d and %d = %d", f.e, g.e, e)
			}
			// Under an origin that may not be nothing is, so there is no cut either; long ones take the other telling long.
			if f.kind > long {
				if has := faults(z); has[f.kind] == api.OK || has[g.kind] == api.OK {
					t.Errorf("%d and %d: there is %v", f.e, g.e, has)
				}
			}
			seen[[2]int{f.kind, g.kind}] = true
		}
	}
	if len(seen) != kinds*(kinds-1)/2 {
		t.Errorf("%d pairs alone", len(seen))
	}
}

// Every choice of a few sets, in their order and out of it.
func TestCheckEvery(t *testing.T) {
	all := inOrder(slices.Concat(sets(with("a. TXT x", "b.a. A 10.0.0.1", "b.a. TXT x", "x.b.a. NS a.", "*.a. NS a.", "www.a. AAAA ::1", "c. A 10.0.0.1")...), sets("q.a. CH A 10.0.0.1")))
	r := rand.New(rand.NewSource(161))
	told := map[api.Errno]int{}
	for bits := range 1 << len(all) {
		z := api.Zone{Origin: of("a.")}
		for i, s := range all {
			if bits>>i&1 != 0 {
				z.Sets = append(z.Sets, s)
			}
		}
		if r.Intn(8) == 0 {
			r.Shuffle(len(z.Sets), func(i, j int) { z.Sets[i], z.Sets[j] = z.Sets[j], z.Sets[i] })
		}
		want := modelCheck(z)
		if e := zone.Check(z); e != want {
			t.Fatalf("Check(%s) = %d, not %d", brief(z), e, want)
		}
		told[want]++
	}
	for _, e := range []api.Errno{api.OK, api.ErrOrder, api.ErrClass, api.ErrOutside, api.ErrSOA, api.ErrApex, api.ErrAlias, api.ErrStar, api.ErrOccluded} {
		if told[e] < 50 {
			t.Errorf("%d is told %d times", e, told[e])
		}
	}
}

// By chance.
func TestCheckModel(t *testing.T) {
	r := rand.New(rand.NewSource(162))
	told := map[api.Errno]int{}
	for range 60000 {
		z := someZone(r)
		want := modelCheck(z)
		if e := zone.Check(z); e != want {
			t.Fatalf("Check(%s) = %d, not %d", brief(z), e, want)
		}
		told[want]++
	}
	for _, e := range []api.Errno{api.OK, api.ErrLabel, api.ErrMissing, api.ErrData, api.ErrThere, api.ErrOrder, api.ErrClass, api.ErrOutside, api.ErrSOA, api.ErrApex, api.ErrAlias, api.ErrStar, api.ErrOccluded} {
		if told[e] < 300 {
			t.Errorf("%d is told %d times", e, told[e])
		}
	}
}

package seek_test

import (
	"slices"
	"strings"
	"testing"

	"nomenclator/api"
	"nomenclator/zone"
)

// P17.1: errors.

var (
	long63  = strings.Repeat("a", 63)
	name255 = api.Name{long63, long63, long63, long63[:61]}
	name256 = api.Name{long63, long63, long63, long63[:62]}
	// Names that may not be, with their error.
	noNames = []struct {
		n api.Name
		e api.Errno
	}{{api.Name{""}, api.ErrLabel}, {api.Name{"", "a"}, api.ErrLabel}, {api.Name{"x", "", "b", "a"}, api.ErrLabel}, {api.Name{"a", ""}, api.ErrLabel}, {api.Name{long63 + "a", "a"}, api.ErrLabel}, {append(name256[:4:4], ""), api.ErrLabel}, {name256, api.ErrName}, {append(name256[:4:4], "a"), api.ErrName}, {slices.Repeat(api.Name{"a"}, 128), api.ErrName}}
	// Names that may be and that are not at or under the origin a.
	outside = []api.Name{nil, {}, of("c."), of("x.c."), of("aa."), of("x.aa."), of("a.c."), of("b.a.c."), {"x.a"}, {"b", "x.a"}, of("*."), of("ns."), name255}
)

// faulty is a zone that may not be, and its error.
type faulty struct {
	z api.Zone
	e api.Errno
}

func set(owner api.Name, t api.Type, l ...api.Data) api.Set {
	return api.Set{Owner: owner, Type: t, Class: api.IN, TTL: 60, Data: l}
}

func addr(n int) api.Data { return api.Data{Raw: []byte{10, 1, byte(n >> 8), byte(n)}} }

func addrs(n int) []api.Data {
	var l []api.Data
	for i := range n {
		l = append(l, addr(i))
	}
	return l
}

func host(n api.Name) api.Data { return api.Data{Names: []api.Name{n}} }

func txt() api.Data { return api.Data{Texts: []string{"x"}} }

// noZones has one of each of zone.Check's errors.
func noZones() []faulty {
	base := tidy("a.", apex, soa)
	more := func(l ...api.Set) api.Zone {
		return api.Zone{Origin: base.Origin, Sets: slices.Concat(base.Sets, l)}
	}
	turned := api.Zone{Origin: base.Origin, Sets: []api.Set{base.Sets[1], base.Sets[0]}}
	class := more(set(of("x.a."), api.A, addr(1)))
	class.Sets[2].Class = 3
	var many []api.Set
	for _, l := range []string{"b.a.", "c.a.", "d.a.", "e.a."} {
		many = append(many, set(of(l), api.A, addrs(512)...))
	}
	return []faulty{
		{api.Zone{Origin: api.Name{"", "a"}, Sets: base.Sets}, api.ErrLabel},
		{api.Zone{Origin: name256}, api.ErrName},
		{more(many...), api.ErrLong},
		{more(set(of("x.a."), api.A)), api.ErrMissing},
		{more(set(of("x.a."), api.A, api.Data{})), api.ErrData},
		{more(set(of("x.a."), api.A, addr(1), addr(1))), api.ErrThere},
		{turned, 260},
		{class, 261},
		{more(set(of("c."), api.A, addr(1))), 262},
		{api.Zone{Origin: base.Origin, Sets: base.Sets[:1]}, 263},
		{api.Zone{Origin: base.Origin, Sets: base.Sets[1:]}, 264},
		{more(set(of("b.a."), api.CNAME, host(nil)), set(of("b.a."), api.TXT, txt())), 265},
		{more(set(of("*.a."), api.NS, host(nil))), 266},
		{more(set(of("b.a."), api.NS, host(nil)), set(of("x.b.a."), api.TXT, txt())), 267},
		{api.Zone{}, 263},
	}
}

func TestNoZone(t *testing.T) {
	told := map[api.Errno]bool{}
	for _, f := range noZones() {
		if e := zone.Check(f.z); e != f.e {
			t.Errorf("Check(%s) = %d, not %d", brief(f.z), e, f.e)
		}
		for _, s := range []string{"a.", "b.a.", "x.b.a.", "q.a.", "*.a."} {
			refuses(t, f.z, of(s), f.e)
		}
		told[f.e] = true
	}
	for _, e := range []api.Errno{3, 4, 5, 7, 9, 10, 260, 261, 262, 263, 264, 265, 266, 267} {
		if !told[e] {
			t.Errorf("no zone has %d", e)
		}
	}
}

func TestNoName(t *testing.T) {
	for _, z := range []api.Zone{example(), tidy(".", ". NS a.", ". SOA a. a. 1 2 3 4 5", "*. A 10.0.0.1", "b.a. NS x.")} {
		for _, f := range noNames {
			refuses(t, z, f.n, f.e)
		}
	}
}

func TestOutside(t *testing.T) {
	for _, n := range outside {
		refuses(t, example(), n, api.ErrArg)
	}
	z := tidy("b.A.", "b.a. NS x.", "b.a. SOA a. a. 1 2 3 4 5", "*.b.a. A 10.0.0.1")
	for _, s := range []string{".", "a.", "A.", "b.", "c.a.", "x.c.a.", "*.a.", "bb.a.", "x.a.", "b.b.", "a.b.", "b.a.a.", "b.a.b."} {
		refuses(t, z, of(s), api.ErrArg)
	}
	refuses(t, z, api.Name{"b.a"}, api.ErrArg)
	// The origin itself is at it, whatever its letters; all names are under the root.
	for _, s := range []string{"b.a.", "B.A.", "b.A.", "x.B.a."} {
		if _, e := seekFind(z, s); e != api.OK {
			t.Errorf("Find(%s) = %d", s, e)
		}
	}
	root := tidy(".", ". NS a.", ". SOA a. a. 1 2 3 4 5")
	for _, s := range []string{".", "a.", "x.y.z."} {
		if _, e := seekFind(root, s); e != api.OK {
			t.Errorf("Find(%s) = %d", s, e)
		}
	}
}

// Of each two errors that a zone and a name have the zone's is told, and of a name's own ahead of where it is.
func TestTwoErrors(t *testing.T) {
	for _, f := range noZones() {
		for _, n := range noNames {
			refuses(t, f.z, n.n, f.e)
		}
		for _, n := range outside {
			refuses(t, f.z, n, f.e)
		}
	}
	far := []struct {
		n api.Name
		e api.Errno
	}{{api.Name{"", "c"}, api.ErrLabel}, {api.Name{"", "c", "b"}, api.ErrLabel}, {name256, api.ErrName}, {append(name256[:4:4], ""), api.ErrLabel}, {api.Name{""}, api.ErrLabel}}
	for _, f := range far {
		refuses(t, example(), f.n, f.e)
	}
}

package zone_test

import (
	"math/rand"
	"slices"
	"strings"
	"testing"

	"nomenclator/api"
	"nomenclator/rrset"
	"nomenclator/zone"
)

// P16.2: Of, Records.

// makes holds Of to what it must answer.
func makes(t *testing.T, o api.Name, l []api.Record, want api.Zone, wrong api.Errno) {
	t.Helper()
	if z, e := zone.Of(o, l); !equalZones(z, want) || e != wrong {
		t.Errorf("Of(%q, %s) = %s, %d; want %s, %d", o, brief(l), brief(z), e, brief(want), wrong)
	}
}

// tells holds Records to what it must answer.
func tells(t *testing.T, z api.Zone, want []api.Record) {
	t.Helper()
	if l, e := zone.Records(z); !equalRecords(l, want) || e != api.OK {
		t.Errorf("Records(%s) = %s, %d; want %s", brief(z), brief(l), e, brief(want))
	}
}

func TestOf(t *testing.T) {
	in := func(lines ...string) []api.Record { return records(sets(lines...)) }
	for _, c := range []struct {
		origin string
		l      []api.Record
		want   api.Zone
	}{
		{"a.", in(example()...), as("a.", example()...)},
		{"a.", in("www.a. CNAME ns.a.", "ns.b.a. A 10.0.0.2", soa, "ns.a. A 10.0.0.1", apex, "b.a. NS ns.b.a."), as("a.", example()...)},
		// Data are laid in order, once each, with the least TTL; letters are those that came first.
		{"a.", in(soa, "a. 9 NS b.", "x.a. A 10.0.0.2", "A. 5 NS aa.", "X.a. 70 A 10.0.0.1", "a. 7 NS B.", "x.A. A 10.0.0.3"), as("a.", "a. 5 NS b.", "a. 5 NS aa.", soa, "x.a. A 10.0.0.1", "x.a. A 10.0.0.2", "x.a. A 10.0.0.3")},
		{"a.", in("A. NS ns.a.", soa), as("a.", "A. NS ns.a.", soa)},
		{"A.", in(soa, apex), as("A.", apex, soa)},
		{".", in("b. A 10.0.0.1", ". SOA a. a. 1 2 3 4 5", "a. A 10.0.0.1", ". NS a."), as(".", ". NS a.", ". SOA a. a. 1 2 3 4 5", "a. A 10.0.0.1", "b. A 10.0.0.1")},
		// The second SOA is the first one's datum.
		{"a.", in(apex, soa, "A. 30 SOA NS.A. A. 1 2 3 4 30"), as("a.", apex, "a. 30 SOA ns.a. a. 1 2 3 4 30")},
	} {
		makes(t, of(c.origin), c.l, c.want, api.OK)
		tells(t, c.want, records(c.want.Sets))
	}
}

// rrset.Of's error comes ahead of the origin's, and that one ahead of all else.
func TestOfRefuses(t *testing.T) {
	none := api.Zone{}
	one := records(sets(apex, soa, "q.a. A 10.0.0.1"))
	spoilt := func(change func(r *api.Record)) []api.Record {
		l := slices.Clone(one)
		change(&l[2])
		return l
	}
	for _, c := range []struct {
		l []api.Record
		e api.Errno
	}{
		{spoilt(func(r *api.Record) { r.Owner = api.Name{""} }), api.ErrLabel},
		{spoilt(func(r *api.Record) { r.Owner = name256 }), api.ErrName},
		{spoilt(func(r *api.Record) { r.Type = 0 }), api.ErrType},
		{spoilt(func(r *api.Record) { r.Type = api.ANY }), api.ErrType},
		{spoilt(func(r *api.Record) { r.Type = api.AAAA }), api.ErrData},
		{spoilt(func(r *api.Record) { r.Type, r.Data = api.NS, api.Data{Names: []api.Name{name256}} }), api.ErrName},
		{records([]api.Set{set("q.a.", api.A, addrs(513)...)}), api.ErrLong},
	} {
		for _, o := range []api.Name{of("a."), nil, {""}, name256} {
			makes(t, o, c.l, none, c.e)
		}
	}
	for _, o := range noNames {
		makes(t, o.n, one, none, o.e)
		makes(t, o.n, nil, none, o.e)
		makes(t, o.n, records(full(2049, 1).Sets), none, o.e)
	}
	makes(t, of("a."), spoilt(func(r *api.Record) { r.Type = api.OPT }), none, api.ErrClass)
	for _, l := range [][]api.Record{nil, {}} {
		makes(t, nil, l, none, api.ErrSOA)
		makes(t, of("a."), l, none, api.ErrSOA)
	}
	for _, c := range []struct {
		e api.Errno
		l []string
	}{
		{api.ErrOrder, with("q.a. CH A 10.0.0.1", "q.a. A 10.0.0.2")},
		{api.ErrClass, with("q.a. CH A 10.0.0.1")},
		{api.ErrOutside, with("c. A 10.0.0.1")},
		{api.ErrOutside, with(". A 10.0.0.1")},
		{api.ErrSOA, without(soa)},
		{api.ErrSOA, with("a. SOA ns.a. a. 1 2 3 4 31")},
		{api.ErrSOA, with("ns.a. SOA ns.a. a. 1 2 3 4 30")},
		{api.ErrApex, without(apex)},
		{api.ErrAlias, with("WWW.a. A 10.0.0.1")},
		{api.ErrAlias, with("www.a. CNAME x.")},
		{api.ErrAlias, with("a. CNAME x.")},
		{api.ErrStar, with("*.a. NS x.")},
		{api.ErrOccluded, with("x.b.a. TXT x")},
		{api.ErrOccluded, with("B.a. TXT x")},
	} {
		for _, l := range [][]api.Record{records(sets(c.l...)), records(inOrder(sets(c.l...)))} {
			makes(t, of("a."), l, none, c.e)
			slices.Reverse(l)
			makes(t, of("a."), l, none, c.e)
		}
	}
}

// 2,048 data: the same ones, told again, are none more.
func TestOfLong(t *testing.T) {
	for _, each := range []int{1, 3, 512} {
		z := full(2048, each)
		l := records(z.Sets)
		makes(t, of("a."), l, z, api.OK)
		makes(t, of("a."), slices.Concat(l, l, l), z, api.OK)
		makes(t, of("a."), records(full(2049, each).Sets), api.Zone{}, api.ErrLong)
		tells(t, z, l)
	}
}

// P16.5: Of hangs on no order of records, nor on how often one is there; but for letters and TTLs that the first and the least one say.
func TestOfAnyOrder(t *testing.T) {
	r := rand.New(rand.NewSource(163))
	z := as("a.", "a. NS x.", apex, soa, "a. TXT a", "a. TXT x", "b.a. NS c.", "b.a. NS ns.b.a.", "b.a. AAAA ::1", "b.a. AAAA ::2", "ns.b.a. A 10.0.0.1", "ns.b.a. A 10.0.0.2", "ns.a. A 10.0.0.1", "*.w.a. A 10.0.0.3", "www.a. CNAME ns.a.", `x.a. TYPE99 \# 1 01`, `x.a. TYPE99 \# 1 02`)
	l := records(z.Sets)
	shuffle := func(l []api.Record) []api.Record {
		l = slices.Concat(l, l[:r.Intn(len(l)+1)])
		r.Shuffle(len(l), func(i, j int) { l[i], l[j] = l[j], l[i] })
		return l
	}
	for range 500 {
		makes(t, of("a."), shuffle(l), z, api.OK)
		other := slices.Clone(l)
		for i := range other {
			other[i].Owner = slices.Clone(other[i].Owner)
			for j, s := range other[i].Owner {
				other[i].Owner[j] = pick(r, s, strings.ToUpper(s))
			}
			other[i].TTL = uint32(50 + r.Intn(50))
		}
		one, e := zone.Of(of("a."), other)
		two, f := zone.Of(of("A."), shuffle(other))
		if e != api.OK || f != api.OK || !slices.EqualFunc(one.Sets, two.Sets, rrset.Same) || !slices.EqualFunc(one.Sets, z.Sets, rrset.SameData) {
			t.Errorf("%s, %d; %s, %d", brief(one), e, brief(two), f)
		}
		if t.Failed() {
			return
		}
	}
}

// P16.5: Of of Records is the zone; and Of is what the other telling says, whatever the records are.
func TestOfModel(t *testing.T) {
	r := rand.New(rand.NewSource(164))
	told := map[api.Errno]int{}
	for range 40000 {
		z := someZone(r)
		l := records(z.Sets)
		if r.Intn(2) == 0 {
			r.Shuffle(len(l), func(i, j int) { l[i], l[j] = l[j], l[i] })
		}
		want, wrong := modelOf(z.Origin, l)
		makes(t, z.Origin, l, want, wrong)
		told[wrong]++
		if modelCheck(z) == api.OK {
			tells(t, z, records(z.Sets))
			again, _ := zone.Records(z)
			makes(t, z.Origin, again, z, api.OK)
		}
		if wrong == api.OK {
			again, _ := zone.Records(want)
			makes(t, z.Origin, again, want, api.OK)
		}
		if t.Failed() {
			return
		}
	}
	for _, e := range []api.Errno{api.OK, api.ErrLabel, api.ErrData, api.ErrClass, api.ErrOutside, api.ErrSOA, api.ErrApex, api.ErrAlias, api.ErrStar, api.ErrOccluded} {
		if told[e] < 200 {
			t.Errorf("%d is told %d times", e, told[e])
		}
	}
}

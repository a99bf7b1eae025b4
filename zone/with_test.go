package zone_test

import (
	"math/rand"
	"slices"
	"testing"

	"nomenclator/api"
	"nomenclator/zone"
)

// P16.4: With, Without.

// gets holds With to what it must answer.
func gets(t *testing.T, z api.Zone, s api.Set, want api.Zone, wrong api.Errno) {
	t.Helper()
	if got, e := zone.With(z, s); !equalZones(got, want) || e != wrong {
		t.Errorf("With(%s, %s) = %s, %d; want %s, %d", brief(z), brief(s), brief(got), e, brief(want), wrong)
	}
}

// loses holds Without to what it must answer.
func loses(t *testing.T, z api.Zone, n api.Name, kind api.Type, want api.Zone, wrong api.Errno) {
	t.Helper()
	if got, e := zone.Without(z, n, kind); !equalZones(got, want) || e != wrong {
		t.Errorf("Without(%s, %q, %d) = %s, %d; want %s, %d", brief(z), n, kind, brief(got), e, brief(want), wrong)
	}
}

func TestWith(t *testing.T) {
	const host, host2 = "ns.b.a. A 10.0.0.2", "ns.a. A 10.0.0.1"
	const cut, www = "b.a. NS ns.b.a.", "www.a. CNAME ns.a."
	for _, c := range []struct {
		set  []string
		want []string
	}{
		// Ahead of the first set, behind the last one, and among the others.
		{[]string{"a. A 10.0.0.9"}, []string{"a. A 10.0.0.9", apex, soa, cut, host, host2, www}},
		{[]string{"a. TXT x"}, []string{apex, soa, "a. TXT x", cut, host, host2, www}},
		{[]string{`a. TYPE3 \# 0`}, []string{apex, `a. TYPE3 \# 0`, soa, cut, host, host2, www}},
		{[]string{"a.a. TXT x"}, []string{apex, soa, "a.a. TXT x", cut, host, host2, www}},
		{[]string{"b.a. A 10.0.0.9"}, []string{apex, soa, "b.a. A 10.0.0.9", cut, host, host2, www}},
		{[]string{"B.A. AAAA ::1"}, []string{apex, soa, cut, "B.A. AAAA ::1", host, host2, www}},
		{[]string{"z.b.a. A 10.0.0.9"}, []string{apex, soa, cut, host, "z.b.a. A 10.0.0.9", host2, www}},
		{[]string{"ns.a. TXT x"}, []string{apex, soa, cut, host, host2, "ns.a. TXT x", www}},
		{[]string{"Z.q.a. CNAME x."}, []string{apex, soa, cut, host, host2, "Z.q.a. CNAME x.", www}},
		{[]string{"x.www.a. TXT x"}, []string{apex, soa, cut, host, host2, www, "x.www.a. TXT x"}},
		{[]string{"z.a. NS x."}, []string{apex, soa, cut, host, host2, www, "z.a. NS x."}},
		// In the place of one, with its own letters and TTL.
		{[]string{"A. 5 NS x."}, []string{"A. 5 NS x.", soa, cut, host, host2, www}},
		{[]string{"a. 7 SOA x. y. 5 4 3 2 1"}, []string{apex, "a. 7 SOA x. y. 5 4 3 2 1", cut, host, host2, www}},
		{[]string{"B.a. NS x.", "B.a. NS z."}, []string{apex, soa, "B.a. NS x.", "B.a. NS z.", host, host2, www}},
		{[]string{"WWW.A. 0 CNAME x."}, []string{apex, soa, cut, host, host2, "WWW.A. 0 CNAME x."}},
		{[]string{"www.a. CNAME ns.a."}, []string{apex, soa, cut, host, host2, www}},
		// Its data are laid in order.
		{[]string{"b.a. NS x.", "b.a. NS C.", "b.a. NS aa.", "b.a. NS b."}, []string{apex, soa, "b.a. NS b.", "b.a. NS C.", "b.a. NS x.", "b.a. NS aa.", host, host2, www}},
		{[]string{"q.a. A 10.0.0.2", "q.a. A 10.0.0.3", "q.a. A 10.0.0.1"}, []string{apex, soa, cut, host, host2, "q.a. A 10.0.0.1", "q.a. A 10.0.0.2", "q.a. A 10.0.0.3", www}},
	} {
		gets(t, as("a.", example()...), sets(c.set...)[0], as("a.", c.want...), api.OK)
	}
	gets(t, as(".", ". NS a.", ". SOA a. a. 1 2 3 4 5"), sets("*. A 10.0.0.1")[0], as(".", ". NS a.", ". SOA a. a. 1 2 3 4 5", "*. A 10.0.0.1"), api.OK)
	gets(t, as("A.", apex, soa), sets("b.a. A 10.0.0.1")[0], as("A.", apex, soa, "b.a. A 10.0.0.1"), api.OK)
}

func TestWithRefuses(t *testing.T) {
	base, none := as("a.", example()...), api.Zone{}
	for _, c := range []struct {
		e api.Errno
		l []string
	}{
		// Another class than that of the set that is there makes two of one owner and type.
		{api.ErrOrder, []string{"ns.a. CH A 10.0.0.1"}},
		{api.ErrOrder, []string{"NS.a. CLASS0 A 10.0.0.1"}},
		{api.ErrOrder, []string{"a. CH SOA a. a. 1 2 3 4 5"}},
		{api.ErrClass, []string{"q.a. CH A 10.0.0.1"}},
		{api.ErrClass, []string{"ns.a. CLASS0 TXT x"}},
		{api.ErrClass, []string{"c. CH A 10.0.0.1"}},
		{api.ErrOutside, []string{"c. A 10.0.0.1"}},
		{api.ErrOutside, []string{". A 10.0.0.1"}},
		{api.ErrSOA, []string{"b.a. SOA a. a. 1 2 3 4 5"}},
		{api.ErrSOA, []string{"a. SOA a. a. 1 2 3 4 5", "a. SOA a. a. 0 2 3 4 5"}},
		{api.ErrAlias, []string{"a. CNAME b."}},
		{api.ErrAlias, []string{"www.a. A 10.0.0.9"}},
		{api.ErrAlias, []string{"WWW.A. TXT x"}},
		{api.ErrAlias, []string{"ns.a. CNAME x."}},
		{api.ErrAlias, []string{"b.a. CNAME x."}},
		{api.ErrAlias, []string{"www.a. CNAME x.", "www.a. CNAME y."}},
		{api.ErrStar, []string{"*.a. NS a."}},
		{api.ErrStar, []string{"*.b.a. NS a."}},
		{api.ErrOccluded, []string{"x.b.a. TXT x"}},
		{api.ErrOccluded, []string{"b.a. TXT x"}},
		{api.ErrOccluded, []string{"x.b.a. NS x."}},
	} {
		gets(t, base, sets(c.l...)[0], none, c.e)
	}
	gets(t, as("a.", apex, soa, "x.b.a. TXT x"), sets("b.a. NS x.")[0], none, api.ErrOccluded)
	gets(t, as("a.", apex, soa, "b.a. TXT x"), sets("b.a. NS x.")[0], none, api.ErrOccluded)
	gets(t, as("a.", apex, soa, "x.b.a. NS x."), sets("B.a. NS x.")[0], none, api.ErrOccluded)
	gets(t, base, set("q.a.", api.OPT, api.Data{}), none, api.ErrClass)
	gets(t, base, api.Set{}, none, api.ErrMissing)
	for _, f := range noSets() {
		var z api.Zone
		f.make(&z)
		gets(t, base, z.Sets[0], none, f.e)
		s := z.Sets[0]
		s.Class = 3
		gets(t, base, s, none, f.e)
	}
	// What is wrong with the zone comes ahead of what is wrong with the set.
	for _, f := range everyFault() {
		z := both(f, faulty{make: func(*api.Zone) {}})
		for _, s := range []api.Set{{}, set("q.a.", api.A), set("c.", api.A, addr(1)), set("q.a.", api.A, addr(1))} {
			gets(t, z, s, none, f.e)
		}
	}
	// Nor does a set mend a zone that may not be, or one that is not there spoil it.
	gets(t, as("a.", apex), sets(soa)[0], none, api.ErrSOA)
	gets(t, as("a.", soa), sets(apex)[0], none, api.ErrApex)
}

// So many data may be, the new set's among them, and those in whose place it stands not.
func TestWithLong(t *testing.T) {
	z, none := full(2047, 512), api.Zone{}
	last := len(z.Sets) - 1
	one, two := set("z.a.", api.A, addr(1)), set("z.a.", api.A, addrs(2)...)
	want := z
	want.Sets = append(slices.Clone(z.Sets), one)
	gets(t, z, one, want, api.OK)
	gets(t, z, two, none, api.ErrLong)
	gets(t, want, one, want, api.OK)
	gets(t, want, two, none, api.ErrLong)
	gets(t, want, set("y.a.", api.A, addr(1)), none, api.ErrLong)
	place := z.Sets[last]
	place.Data = addrs(len(place.Data) + 1)
	want = z
	want.Sets = append(slices.Clone(z.Sets[:last]), place)
	gets(t, z, place, want, api.OK)
	place.Data = addrs(len(place.Data) + 1)
	gets(t, z, place, none, api.ErrLong)
	// All data are counted ahead of what is wrong with the set.
	gets(t, full(2048, 512), api.Set{Owner: api.Name{""}, Data: addrs(1)}, none, api.ErrLong)
	gets(t, full(2048, 512), api.Set{Owner: api.Name{""}}, none, api.ErrLabel)
	gets(t, full(9, 1), set("z.a.", api.A, addrs(3000)...), none, api.ErrLong)
}

func TestWithout(t *testing.T) {
	base, none := as("a.", example()...), api.Zone{}
	for _, c := range []struct {
		n    string
		kind api.Type
		line string
	}{{"www.a.", api.CNAME, "www.a. CNAME ns.a."}, {"WWW.A.", api.CNAME, "www.a. CNAME ns.a."}, {"ns.b.a.", api.A, "ns.b.a. A 10.0.0.2"}, {"Ns.A.", api.A, "ns.a. A 10.0.0.1"}, {"b.a.", api.NS, "b.a. NS ns.b.a."}} {
		loses(t, base, of(c.n), c.kind, as("a.", without(c.line)...), api.OK)
	}
	loses(t, as("a.", apex, soa, "A. TXT x", "b.a. A 10.0.0.1", "b.a. NS x.", "b.a. NS y.", "b.a. AAAA ::1"), of("b.a."), api.NS, as("a.", apex, soa, "A. TXT x", "b.a. A 10.0.0.1", "b.a. AAAA ::1"), api.OK)
	loses(t, as(".", ". NS a.", ". SOA a. a. 1 2 3 4 5", ". TXT x"), nil, api.TXT, as(".", ". NS a.", ". SOA a. a. 1 2 3 4 5"), api.OK)
	for _, c := range []struct {
		n    api.Name
		kind api.Type
		e    api.Errno
	}{
		{of("a."), api.SOA, api.ErrSOA}, {of("A."), api.SOA, api.ErrSOA}, {of("a."), api.NS, api.ErrApex}, {of("A."), api.NS, api.ErrApex},
		{of("q.a."), api.NS, api.ErrMissing}, {of("www.a."), api.A, api.ErrMissing}, {of("b.a."), api.A, api.ErrMissing}, {of("a."), api.A, api.ErrMissing}, {nil, api.NS, api.ErrMissing}, {of("c."), api.A, api.ErrMissing}, {of("b."), api.NS, api.ErrMissing}, {of("x.www.a."), api.CNAME, api.ErrMissing},
		{of("www.a."), 0, api.ErrMissing}, {of("www.a."), api.ANY, api.ErrMissing}, {of("www.a."), api.OPT, api.ErrMissing}, {of("a."), api.ANY, api.ErrMissing},
		{api.Name{""}, api.A, api.ErrMissing}, {api.Name{"", "a"}, api.SOA, api.ErrMissing}, {name256, api.A, api.ErrMissing},
	} {
		loses(t, base, c.n, c.kind, none, c.e)
	}
	// What is wrong with the zone comes first, also if it were well without the set.
	for _, f := range everyFault() {
		z := both(f, faulty{make: func(*api.Zone) {}})
		loses(t, z, of("www.a."), api.CNAME, none, f.e)
		loses(t, z, of("q.a."), api.A, none, f.e)
		loses(t, z, of("none.a."), api.A, none, f.e)
		loses(t, z, nil, 0, none, f.e)
	}
	loses(t, as("a.", with("z.a. CH TXT x")...), of("z.a."), api.TXT, none, api.ErrClass)
	loses(t, as("a.", with("z.a. CNAME x.", "z.a. TXT x")...), of("z.a."), api.TXT, none, api.ErrAlias)
}

// P16.5: With and Without of the same set lead back, each way round.
func TestThereAndBack(t *testing.T) {
	base := as("a.", with("z.a. TXT x")...)
	for _, l := range [][]string{{"a. A 10.0.0.1"}, {"b.a. A 10.0.0.2", "b.a. A 10.0.0.1"}, {"x.b.a. AAAA ::1"}, {"q.a. NS x."}, {"Q.a. CNAME x."}, {"zz.a. TXT y", "zz.a. TXT x"}, {"*.a. TXT x"}} {
		s := sets(l...)[0]
		more, e := zone.With(base, s)
		if e != api.OK {
			t.Fatal(e)
		}
		loses(t, more, s.Owner, s.Type, base, api.OK)
	}
	for _, s := range base.Sets[2:] {
		less, e := zone.Without(base, s.Owner, s.Type)
		if e != api.OK {
			t.Fatal(e)
		}
		gets(t, less, s, base, api.OK)
	}
}

// By chance, with sets that are there, that are not, and that may not be.
func TestWithModel(t *testing.T) {
	r := rand.New(rand.NewSource(167))
	told := map[api.Errno]int{}
	lost := map[api.Errno]int{}
	for range 30000 {
		z := someZone(r)
		if modelCheck(z) != api.OK && r.Intn(10) != 0 {
			continue
		}
		for range 4 {
			s := someSet(r, pick(r, someNames...), pick(r, someTypes...))
			if len(z.Sets) > 0 && r.Intn(3) == 0 {
				s.Owner, s.Type = pick(r, z.Sets...).Owner, pick(r, z.Sets...).Type
				s.Data = []api.Data{someData(r, s.Type), someData(r, s.Type)}[:1+r.Intn(2)]
			}
			want, wrong := modelWith(z, s)
			gets(t, z, s, want, wrong)
			told[wrong]++
			if wrong == api.OK && !slices.ContainsFunc(z.Sets, func(o api.Set) bool { return is(o.Owner, s.Owner) && o.Type == s.Type }) {
				loses(t, want, s.Owner, s.Type, z, api.OK)
			}
			want, wrong = modelWithout(z, s.Owner, s.Type)
			loses(t, z, s.Owner, s.Type, want, wrong)
			lost[wrong]++
			if wrong == api.OK {
				gets(t, want, modelAt(api.Zone{Sets: slices.DeleteFunc(slices.Clone(z.Sets), func(o api.Set) bool { return o.Type != s.Type })}, s.Owner)[0], z, api.OK)
			}
			if t.Failed() {
				return
			}
		}
	}
	for _, e := range []api.Errno{api.OK, api.ErrLabel, api.ErrMissing, api.ErrData, api.ErrThere, api.ErrOrder, api.ErrClass, api.ErrOutside, api.ErrSOA, api.ErrApex, api.ErrAlias, api.ErrStar, api.ErrOccluded} {
		if told[e] < 30 {
			t.Errorf("With tells %d %d times", e, told[e])
		}
	}
	for _, e := range []api.Errno{api.OK, api.ErrMissing, api.ErrSOA, api.ErrApex} {
		if lost[e] < 30 {
			t.Errorf("Without tells %d %d times", e, lost[e])
		}
	}
}

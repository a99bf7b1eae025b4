package zone_test

import (
	"testing"

	"nomenclator/api"
	"nomenclator/master"
	"nomenclator/rrset"
	"nomenclator/zone"
)

// The chapter's examples.
func TestExamples(t *testing.T) {
	z := tidy("a.", example()...)
	checks(t, z, api.OK)
	l := records(sets(example()...))
	for range len(l) { // each record once at each place
		l = append(l[1:], l[0])
		makes(t, of("a."), l, z, api.OK)
	}
	for _, c := range []struct {
		n   string
		cut string
		has bool
	}{{"x.b.a.", "b.a.", false}, {"b.a.", "b.a.", true}, {"www.a.", "", true}, {"x.a.", "", false}, {"a.", "", true}} {
		n, there := zone.Cut(z, of(c.n))
		if there != (c.cut != "") || there && !is(n, of(c.cut)) || zone.Has(z, of(c.n)) != c.has {
			t.Errorf("%s: %q, %v", c.n, n, there)
		}
	}
	if l := zone.Cuts(z); len(l) != 1 || !is(l[0], of("b.a.")) {
		t.Errorf("Cuts = %q", l)
	}
	if l := zone.At(z, of("WWW.a.")); !equalSets(l, sets("www.a. CNAME ns.a.")) {
		t.Errorf("At = %s", brief(l))
	}
	for line, e := range map[string]api.Errno{"www.a. A 10.0.0.9": api.ErrAlias, "x.b.a. TXT x": api.ErrOccluded, "*.a. NS x.": api.ErrStar, "c. A 10.0.0.9": api.ErrOutside, "a. CNAME x.": api.ErrAlias} {
		gets(t, z, sets(line)[0], api.Zone{}, e)
		checks(t, tidy("a.", with(line)...), e)
		makes(t, of("a."), records(sets(with(line)...)), api.Zone{}, e)
	}
	loses(t, z, of("a."), api.SOA, api.Zone{}, api.ErrSOA)
	loses(t, z, of("a."), api.NS, api.Zone{}, api.ErrApex)
}

// A zone's numbers: this layer's errors are 260 to 267.
func TestNumbers(t *testing.T) {
	for e, l := range map[api.Errno][]string{
		260: {soa, apex}, 261: with("z.a. CH A 10.0.0.1"), 262: {apex, soa, "b. A 10.0.0.1"}, 263: {apex}, 264: {soa}, 265: {apex, soa, "b.a. A 10.0.0.1", "b.a. CNAME x."}, 266: {apex, soa, "*.a. NS x."}, 267: {apex, soa, "b.a. NS x.", "b.a. TXT x"},
	} {
		checks(t, as("a.", l...), e)
	}
}

// Whatever a master file says: what is made of it is what the other telling says, and holds what follows.
func FuzzOf(f *testing.F) {
	const head = "$TTL 60\n$ORIGIN a.\n@ SOA ns @ 1 2 3 4 30\n NS ns\n"
	for _, s := range []string{"", head, head + "ns A 10.0.0.1\nwww CNAME ns\nb NS ns.b\nns.b A 10.0.0.2", head + "*.w A 10.0.0.3\n* NS b.", head + "b NS x.\nB TXT x\nx.b AAAA ::1", head + "q CH A 1.2.3.4\nQ A 1.2.3.4", head + "c. A 1.2.3.4\nx 9 TXT a b c\nX 5 TXT a b c", head + " NS B.\n NS b.\n TYPE99 \\# 1 00"} {
		f.Add(s, "a", "x.b.a.")
	}
	f.Fuzz(func(t *testing.T, s, top, asked string) {
		l, fault := master.Parse(s, nil)
		if fault.Err != api.OK || len(l) > 60 {
			return
		}
		o, n := api.Name{top}, of(asked+".")
		if top == "" {
			o = nil
		}
		want, wrong := modelOf(o, l)
		makes(t, o, l, want, wrong)
		raw, _ := rrset.Of(l)
		z := api.Zone{Origin: o, Sets: raw}
		checks(t, z, modelCheck(z))
		finds(t, z, n)
		for _, s := range raw {
			more, e := modelWith(want, s)
			gets(t, want, s, more, e)
			less, e := modelWithout(want, s.Owner, s.Type)
			loses(t, want, s.Owner, s.Type, less, e)
		}
		if wrong == api.OK {
			tells(t, want, records(want.Sets))
			finds(t, want, n)
		}
	})
}

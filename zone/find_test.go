package zone_test

import (
	"math/rand"
	"slices"
	"testing"

	"nomenclator/api"
	"nomenclator/zone"
)

// P16.3: At, Has, Cut, Cuts.

// finds holds all four to the other telling.
func finds(t *testing.T, z api.Zone, n api.Name) {
	t.Helper()
	if l, want := zone.At(z, n), modelAt(z, n); !equalSets(l, want) {
		t.Errorf("At(%s, %q) = %s, not %s", brief(z), n, brief(l), brief(want))
	}
	if has, want := zone.Has(z, n), modelHas(z, n); has != want {
		t.Errorf("Has(%s, %q) = %v", brief(z), n, has)
	}
	c, there := zone.Cut(z, n)
	if want, is := modelCut(z, n); there != is || !slices.Equal(c, want) {
		t.Errorf("Cut(%s, %q) = %q, %v, not %q, %v", brief(z), n, c, there, want, is)
	}
	if l, want := zone.Cuts(z), modelCuts(z); !slices.EqualFunc(l, want, slices.Equal[api.Name]) {
		t.Errorf("Cuts(%s) = %q, not %q", brief(z), l, want)
	}
}

// odd are zones that may not be: out of order, with sets beside and above the origin, cuts under cuts, a name's cut twice, classes and data that may not be.
func odd() []api.Zone {
	z := as("a.", "x.b.a. NS x.", "y.x.B.a. TXT x", "b.A. NS x.", part, "B.a. NS y.", "c. A 10.0.0.1", "c. NS x.", ". NS x.", "A. NS x.", "x.X.b.a. NS x.", part, "b.A. NS z.", "x.c.a. CH NS x.", "q.a. A 10.0.0.2", "q.a. A 10.0.0.1", part, "Q.a. A 10.0.0.1", "q.A. CH A 10.0.0.1", "*.a. NS x.")
	z.Sets = append(z.Sets, api.Set{Owner: of("none.a."), Type: api.NS}, api.Set{Owner: of("none.a."), Type: 0, Class: 9, TTL: 8}, api.Set{Owner: api.Name{"", "a"}, Type: api.ANY, Data: []api.Data{{}, {}}}, api.Set{Owner: api.Name{"x", "", "a"}, Type: api.NS, Data: []api.Data{{}}}, api.Set{Owner: api.Name{long63 + "a", "a"}, Type: api.NS}, api.Set{Owner: slices.Concat(name256, of("a.")), Type: api.NS, Data: []api.Data{addr(1)}}, api.Set{})
	long := z
	long.Origin = name256
	long.Sets = append(slices.Clone(z.Sets), api.Set{Owner: name256, Type: api.NS}, api.Set{Owner: slices.Concat(of("B.a."), name256), Type: api.NS}, api.Set{Owner: slices.Concat(of("x.b.a."), name256), Type: api.A})
	top := z
	top.Origin = nil
	under := z
	under.Origin = of("x.b.a.")
	return []api.Zone{z, top, under, long, {Origin: of("b.a.")}, {}, {Origin: api.Name{""}, Sets: []api.Set{{Owner: api.Name{"", ""}, Type: api.NS}}}, {Sets: []api.Set{{Type: api.NS}, {}}}, as("a.", "c. NS x.", "x.c. A 10.0.0.1", "b.c. A 10.0.0.1")}
}

var moreNames = []api.Name{{""}, {"", "a"}, {"", "", "a"}, {"x", "", "a"}, {"y", "x", "", "A"}, {long63 + "a", "a"}, {"x", long63 + "A", "a"}, name256, slices.Concat(of("x."), name256), slices.Concat(of("b.A."), name256), slices.Concat(of("Y.x.b.a."), name256), slices.Concat(name256, of("a.")), of("none.a."), of("x.none.A."), of("q.x.X.b.a."), of("Q.A."), of("q.q.a."), of("x.c.a."), of("x.x.c.a."), of("x.c."), of("*.*.a."), {"b.a"}, {"x.b", "a"}}

func names() []api.Name {
	l := slices.Clone(moreNames)
	for _, s := range someNames {
		l = append(l, of(s))
	}
	return l
}

func TestFindOdd(t *testing.T) {
	for _, z := range append(odd(), tidy("a.", with("*.w.a. A 10.0.0.3", "*.x.y.z.a. TXT x")...), tidy(".", ". NS a.", ". SOA a. a. 1 2 3 4 5", "b.a. NS x.", "x.y.z. TXT x")) {
		for _, n := range names() {
			finds(t, z, n)
		}
	}
}

func TestAt(t *testing.T) {
	z := tidy("a.", with("WWW.b.a. A 10.0.0.3", "b.a. AAAA ::1", "a. TXT b", "a. TXT a")...)
	for n, want := range map[string][]api.Set{
		"a.":       sets(apex, soa, "a. TXT b", "a. TXT a"),
		"A.":       sets(apex, soa, "a. TXT b", "a. TXT a"),
		"WWW.a.":   sets("www.a. CNAME ns.a."),
		"www.a.":   sets("www.a. CNAME ns.a."),
		"B.A.":     sets("b.a. NS ns.b.a.", "b.a. AAAA ::1"),
		"www.b.a.": sets("WWW.b.a. A 10.0.0.3"),
		".":        nil, "x.a.": nil, "ww.a.": nil, "wwww.a.": nil, "x.www.a.": nil, "www.": nil, "b.": nil, "a.a.": nil, "c.": nil,
	} {
		if l := zone.At(z, of(n)); !equalSets(l, want) {
			t.Errorf("At(%s) = %s", n, brief(l))
		}
	}
	// As they stand: of any class, unsorted, of which two are of one type, of data that may not be.
	o := odd()[0]
	if l := zone.At(o, of("q.a.")); !equalSets(l, sets("q.a. A 10.0.0.2", "q.a. A 10.0.0.1", part, "Q.a. A 10.0.0.1", "q.A. CH A 10.0.0.1")) {
		t.Errorf("At = %s", brief(l))
	}
	if l := zone.At(o, of("none.A.")); !equalSets(l, []api.Set{{Owner: of("none.a."), Type: api.NS}, {Owner: of("none.a."), Type: 0, Class: 9, TTL: 8}}) {
		t.Errorf("At = %s", brief(l))
	}
	if l := zone.At(o, of("c.")); !equalSets(l, sets("c. A 10.0.0.1", "c. NS x.")) {
		t.Errorf("At = %s", brief(l))
	}
	if l := zone.At(o, api.Name{"", "A"}); len(l) != 1 || len(l[0].Data) != 2 {
		t.Errorf("At = %s", brief(l))
	}
}

func TestHas(t *testing.T) {
	z := tidy("b.A.", "b.a. NS x.", "b.a. SOA a. a. 1 2 3 4 5", "x.y.z.b.a. TXT x", "*.w.b.a. TXT x", "c.b.a. NS x.", "q.r.c.b.a. A 10.0.0.1")
	for n, want := range map[string]bool{
		"b.a.": true, "B.A.": true, "x.y.z.b.a.": true, "Y.z.b.a.": true, "z.B.a.": true, "*.w.b.a.": true, "w.b.a.": true, "c.b.a.": true, "r.c.b.a.": true, "q.r.c.b.a.": true,
		".": false, "a.": false, "b.": false, "c.": false, "x.b.a.": false, "y.b.a.": false, "x.z.b.a.": false, "w.x.y.z.b.a.": false, "q.w.b.a.": false, "*.b.a.": false, "x.c.b.a.": false, "z.b.": false, "z.c.a.": false, "zz.b.a.": false,
	} {
		if has := zone.Has(z, of(n)); has != want {
			t.Errorf("Has(%s) = %v", n, has)
		}
	}
	// The origin is there without sets, too, and what is not under it is not, though a set is.
	if z := (api.Zone{Origin: of("a.")}); !zone.Has(z, of("A.")) || zone.Has(z, nil) || zone.Has(z, of("b.a.")) {
		t.Error("Has of no sets")
	}
	if !zone.Has(api.Zone{}, nil) || !zone.Has(api.Zone{}, api.Name{}) || zone.Has(api.Zone{}, of("a.")) {
		t.Error("Has of no zone")
	}
	if z := as("a.", "x.c. A 10.0.0.1", ". NS a."); zone.Has(z, of("c.")) || zone.Has(z, of("x.c.")) || zone.Has(z, nil) || !zone.Has(z, of("a.")) {
		t.Error("Has beside the origin")
	}
	if z := (api.Zone{Origin: name256, Sets: []api.Set{{Owner: slices.Concat(of("x.y."), name256)}}}); !zone.Has(z, name256) || !zone.Has(z, slices.Concat(of("Y."), name256)) || zone.Has(z, slices.Concat(of("x."), name256)) {
		t.Error("Has of names that may not be")
	}
}

func TestCut(t *testing.T) {
	z := tidy("a.", with("X.c.a. NS b.", "d.a. NS b.")...)
	// Cuts under cuts: the highest one counts, wherever it stands; of two of one name the first one.
	two := as("a.", apex, soa, "y.x.b.a. NS x.", "x.B.a. NS x.", "B.A. NS x.", part, "b.a. NS y.", "b.a. CH NS x.", "x.d.A. NS x.", "D.a. NS x.", part, "x.x.d.a. NS x.")
	for _, c := range []struct {
		z       api.Zone
		n, want string
	}{
		{z, "x.b.a.", "b.a."}, {z, "b.a.", "b.a."}, {z, "B.A.", "b.a."}, {z, "ns.b.a.", "b.a."}, {z, "z.y.x.b.a.", "b.a."}, {z, "x.c.a.", "X.c.a."}, {z, "q.x.c.a.", "X.c.a."}, {z, "d.a.", "d.a."}, {z, "x.D.a.", "d.a."},
		{z, "www.a.", ""}, {z, "a.", ""}, {z, ".", ""}, {z, "c.a.", ""}, {z, "y.c.a.", ""}, {z, "bb.a.", ""}, {z, "b.", ""}, {z, "x.b.", ""}, {z, "b.a.b.", ""}, {z, "ns.a.", ""}, {z, "q.a.", ""},
		{two, "y.x.b.a.", "B.A."}, {two, "x.b.a.", "B.A."}, {two, "b.a.", "B.A."}, {two, "q.b.a.", "B.A."}, {two, "x.x.d.a.", "D.a."}, {two, "X.D.A.", "D.a."}, {two, "d.a.", "D.a."}, {two, "a.", ""}, {two, "e.a.", ""},
		// NS sets at the origin, above it and beside it are none.
		{odd()[0], "a.", ""}, {odd()[0], "c.", ""}, {odd()[0], "x.c.", ""}, {odd()[0], ".", ""}, {odd()[0], "z.", ""}, {odd()[0], "zz.a.", ""},
		// Of any class, without data, at a star: an NS set is one.
		{odd()[0], "q.x.c.a.", "x.c.a."}, {odd()[0], "none.a.", "none.a."}, {odd()[0], "*.a.", "*.a."}, {odd()[0], "*.*.a.", "*.a."},
		{odd()[1], "a.", "A."}, {odd()[1], "x.a.", "A."}, {odd()[1], "x.c.", "c."}, {odd()[1], ".", ""}, {odd()[1], "d.", ""},
		{odd()[2], "x.b.a.", ""}, {odd()[2], "q.x.b.a.", ""}, {odd()[2], "q.x.x.b.a.", "x.X.b.a."},
	} {
		n, there := zone.Cut(c.z, of(c.n))
		if there != (c.want != "") || there && !slices.Equal(n, of(c.want)) || !there && len(n) != 0 {
			t.Errorf("Cut(%s, %s) = %q, %v, not %s", brief(c.z), c.n, n, there, c.want)
		}
	}
	if n, there := zone.Cut(odd()[0], api.Name{"y", "x", "", "A"}); !there || !slices.Equal(n, api.Name{"x", "", "a"}) {
		t.Errorf("Cut = %q, %v", n, there)
	}
}

func TestCuts(t *testing.T) {
	for _, c := range []struct {
		z    api.Zone
		want []string
	}{
		{tidy("a.", example()...), []string{"b.a."}},
		{as("a.", apex, soa), nil},
		{api.Zone{}, nil},
		{as("A.", apex, soa, "B.a. NS x.", "x.b.A. A 10.0.0.1", "c.a. NS x.", "c.a. NS y.", "x.d.a. NS x."), []string{"B.a.", "c.a.", "x.d.a."}},
		{as(".", ". NS x.", "a. NS x.", "b. NS x."), []string{"a.", "b."}},
		{as("b.a.", ". NS x.", "a. NS x.", "b.a. NS x.", "c.a. NS x.", "x.B.A. NS x.", "y.b.a. A 10.0.0.1", "xb.a. NS x."), []string{"x.B.A."}},
		{as("a.", "z.a. NS x.", "x.b.a. NS x.", "b.a. NS x.", part, "b.a. NS x.", "B.a. CH NS y."), []string{"z.a.", "x.b.a.", "b.a.", "b.a.", "B.a."}},
	} {
		l := zone.Cuts(c.z)
		if !slices.EqualFunc(l, c.want, func(n api.Name, s string) bool { return slices.Equal(n, of(s)) }) {
			t.Errorf("Cuts(%s) = %q", brief(c.z), l)
		}
	}
}

// By chance.
func TestFindModel(t *testing.T) {
	r := rand.New(rand.NewSource(165))
	cut, has, at := 0, 0, 0
	for range 15000 {
		z := someZone(r)
		for range 6 {
			n := of(pick(r, someNames...))
			finds(t, z, n)
			if t.Failed() {
				return
			}
			if _, is := zone.Cut(z, n); is {
				cut++
			}
			if zone.Has(z, n) {
				has++
			}
			if len(zone.At(z, n)) > 0 {
				at++
			}
		}
	}
	if cut < 2000 || has < 5000 || at < 5000 {
		t.Errorf("%d, %d, %d", cut, has, at)
	}
}

// P16.5: a name is there just if it is the origin, or some set is at or under it; then so is its parent, up to the origin.
func TestHasFollows(t *testing.T) {
	r := rand.New(rand.NewSource(166))
	for range 3000 {
		z := someZone(r)
		if modelCheck(z) != api.OK {
			continue
		}
		for _, n := range names() {
			below := is(n, z.Origin) || slices.ContainsFunc(z.Sets, func(s api.Set) bool { return atOrUnder(s.Owner, n) })
			if atOrUnder(n, z.Origin) && zone.Has(z, n) != below || !atOrUnder(n, z.Origin) && zone.Has(z, n) {
				t.Fatalf("Has(%s, %q) = %v", brief(z), n, !below)
			}
			if below && under(n, z.Origin) && !zone.Has(z, n[1:]) {
				t.Fatalf("Has(%s, %q) = false", brief(z), n[1:])
			}
			if len(zone.At(z, n)) > 0 && !zone.Has(z, n) {
				t.Fatalf("Has(%s, %q) = false", brief(z), n)
			}
		}
	}
}

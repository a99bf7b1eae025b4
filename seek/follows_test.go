package seek_test

import (
	"math/rand"
	"slices"
	"strings"
	"testing"

	"nomenclator/api"
	"nomenclator/master"
	"nomenclator/name"
	"nomenclator/rrset"
	"nomenclator/seek"
	"nomenclator/zone"
)

// P17.3: what follows.

// follows holds what follows of one name in a zone that may be, and of the names under it by some labels.
func follows(t *testing.T, z api.Zone, n api.Name, under []api.Name) {
	t.Helper()
	s, e := seek.Find(z, n)
	c, f := seek.Closest(z, n)
	d, g := seek.Depth(z, n)
	if e != api.OK || f != api.OK || g != api.OK || d != len(n)-len(c) || !slices.Equal(c, n[d:]) {
		t.Fatalf("%q: %q, %d; %q, %d; %d, %d", n, s, e, c, f, d, g)
	}
	if !zone.Has(z, c) || d > 0 && zone.Has(z, n[d-1:]) {
		t.Errorf("%q: %q is not the closest name", n, c)
	}
	here(t, z, n, s, c)
	for _, u := range under {
		below(t, z, n, s, slices.Concat(u, n))
	}
}

// here holds a spot to what is there: of the five kinds there is just one.
func here(t *testing.T, z api.Zone, n api.Name, s api.Spot, c api.Name) {
	t.Helper()
	cut, beyond := zone.Cut(z, n)
	has, sets := zone.Has(z, n), zone.At(z, n)
	holds := map[api.Kind]bool{
		api.Beyond: beyond && slices.Equal(s.Node, cut) && len(s.Closest) == 0,
		api.Exact:  !beyond && len(sets) > 0 && slices.Equal(s.Node, n) && slices.Equal(s.Closest, n),
		api.Empty:  !beyond && has && len(sets) == 0 && len(s.Node) == 0 && slices.Equal(s.Closest, n),
		api.Wild:   !beyond && !has && slices.Equal(s.Node, star(c)) && zone.Has(z, s.Node) && slices.Equal(s.Closest, c),
		api.None:   !beyond && !has && !zone.Has(z, star(c)) && len(s.Node) == 0 && slices.Equal(s.Closest, c),
	}
	count := 0
	for _, h := range holds {
		if h {
			count++
		}
	}
	if !holds[s.Kind] || count != 1 {
		t.Errorf("%s: %q is %q: %v", brief(z), n, s, holds)
	}
}

// below holds what is told of a name under another one to what is told of that one.
func below(t *testing.T, z api.Zone, n api.Name, s api.Spot, u api.Name) {
	t.Helper()
	v, e := seek.Find(z, u)
	switch s.Kind {
	case api.None, api.Wild, api.Beyond:
		if e != api.OK || !equal(v, s) {
			t.Errorf("%s: %q is %q, %d, but %q is %q", brief(z), u, v, e, n, s)
		}
	}
	if s.Kind != api.Wild {
		return
	}
	// The star of what is told as Wild is under the same closest name; and it is there: with sets, or without.
	w, e := seek.Find(z, s.Node)
	if e != api.OK || w.Kind != api.Exact && w.Kind != api.Empty {
		t.Errorf("%s: the star %q is %q, %d", brief(z), s.Node, w, e)
	}
	if c, e := seek.Closest(z, slices.Concat(api.Name{"none-such"}, s.Closest)); e != api.OK || !slices.Equal(c, s.Closest) {
		t.Errorf("%q, %d, not %q", c, e, s.Closest)
	}
}

func TestFollows(t *testing.T) {
	r := rand.New(rand.NewSource(172))
	kinds := map[api.Kind]int{}
	for range 4500 {
		z := someZone(r)
		for range 6 {
			n := spelt(r, someName(r, pick(r, z.Sets...).Owner))
			var under []api.Name
			for range 3 {
				under = append(under, someName(r, nil))
			}
			follows(t, z, n, under)
			s, _ := seek.Find(z, n)
			kinds[s.Kind]++
		}
		if t.Failed() {
			return
		}
	}
	for kind := range api.Beyond + 1 {
		if kinds[kind] < 500 {
			t.Errorf("%d is told %d times", kind, kinds[kind])
		}
	}
}

// Under a name that is None or Wild all is so, whatever it is; beside it, under the same closest name by another label, it need not be.
func TestUnder(t *testing.T) {
	z := tidy("a.", with("*.w.a. A 10.0.0.3", "e.w.a. TXT x", "y.f.w.a. TXT x", "e.u.a. TXT x", "g.w.a. NS x.", "g.u.a. NS x.")...)
	more := []api.Name{of("x."), of("*."), of("Q."), of("e."), of("e.w."), of("*.w.a."), of("ns."), of("x.y.z."), slices.Repeat(api.Name{"x"}, 100)}
	for _, n := range []string{"q.w.a.", "*.q.w.a.", "q.u.a.", "*.u.a.", "q.a.", "p.q.A.", "q.e.w.a.", "b.a.", "q.b.a.", "ns.B.a.", "g.W.a.", "*.G.w.a.", "g.u.a."} {
		follows(t, z, of(n), more)
	}
	for n, want := range map[string]found{
		"e.w.a.": {api.Exact, "e.w.a.", "e.w.a."}, "f.w.a.": {api.Empty, "", "f.w.a."}, "q.e.w.a.": {api.None, "", "e.w.a."}, "q.f.w.a.": {api.None, "", "f.w.a."}, "p.g.w.a.": {api.Beyond, "g.w.a.", ""}, "q.w.a.": {api.Wild, "*.w.a.", "w.a."},
		"e.u.a.": {api.Exact, "e.u.a.", "e.u.a."}, "p.e.u.a.": {api.None, "", "e.u.a."}, "g.u.a.": {api.Beyond, "g.u.a.", ""}, "q.u.a.": {api.None, "", "u.a."},
	} {
		finds(t, z, of(n), want.spot())
	}
}

// Beyond a cut all names, of any depth, are so with the same Node, whatever stands there.
func TestBeyondDeep(t *testing.T) {
	z := tidy("a.", with("x.y.b.a. A 10.0.0.3", "*.b.a. A 10.0.0.4", "*.y.b.a. AAAA ::1")...)
	for _, l := range []string{"y", "*", "ns", "q"} {
		for n := of("B.a."); name.Check(n) == api.OK; n = slices.Concat(api.Name{l}, n) {
			finds(t, z, n, api.Spot{Kind: api.Beyond, Node: of("b.a.")})
			all(t, z, n)
		}
	}
}

// The chapter's examples.
func TestExamples(t *testing.T) {
	z := example()
	for n, want := range map[string]found{
		"x.b.a.": {api.Beyond, "b.a.", ""}, "b.a.": {api.Beyond, "b.a.", ""}, "NS.a.": {api.Exact, "NS.a.", "NS.a."}, "w.a.": {api.Empty, "", "w.a."},
		"q.w.a.": {api.Wild, "*.w.a.", "w.a."}, "p.q.w.a.": {api.Wild, "*.w.a.", "w.a."}, "q.a.": {api.None, "", "a."}, "*.w.a.": {api.Exact, "*.w.a.", "*.w.a."},
	} {
		finds(t, z, of(n), want.spot())
	}
	refuses(t, z, of("c."), api.ErrArg)
	nears(t, z, of("p.q.w.a."), of("w.a."))
	if d, e := seek.Depth(z, of("p.q.w.a.")); d != 2 || e != api.OK {
		t.Errorf("Depth = %d, %d", d, e)
	}
}

// Whatever a master file says, whatever is asked: errors in their order, or what the other telling says and what follows.
func FuzzFind(f *testing.F) {
	const head = "$TTL 60\n$ORIGIN a.\n@ SOA ns @ 1 2 3 4 30\n NS ns\n"
	for _, s := range []string{"", head, head + "ns A 10.0.0.1\nwww CNAME ns\nb NS ns.b\nns.b A 10.0.0.2\n*.w A 10.0.0.3", head + "* A 10.0.0.3\nx.* A 10.0.0.3", head + "B NS x.\n*.b A 1.2.3.4", head + "x TXT y\nx.y.z TXT y"} {
		f.Add(s, "a.", "x.w.a.", "*.")
		f.Add(s, "A.", "B.a.", "q.r.")
	}
	f.Fuzz(func(t *testing.T, s, top, asked, more string) {
		l, fault := master.Parse(s, nil)
		if fault.Err != api.OK || len(l) > 60 || strings.Count(asked+more, ".") > 300 {
			return
		}
		n, under := of(asked), of(more)
		z := api.Zone{Origin: of(top)}
		z.Sets, _ = rrset.Of(l)
		if made, e := zone.Of(z.Origin, l); e == api.OK {
			z = made
		}
		switch e := zone.Check(z); {
		case e != api.OK:
			refuses(t, z, n, e)
		case name.Check(n) != api.OK:
			refuses(t, z, n, name.Check(n))
		case !atOrUnder(n, z.Origin):
			refuses(t, z, n, api.ErrArg)
		default:
			all(t, z, n)
			var l []api.Name
			if name.Check(slices.Concat(under, n)) == api.OK {
				l = append(l, under)
			}
			follows(t, z, n, l)
		}
	})
}

package seek_test

import (
	"math/rand"
	"slices"
	"strings"
	"testing"

	"nomenclator/api"
	"nomenclator/seek"
)

// P17.2: Find, Closest, Depth.

func seekFind(z api.Zone, s string) (api.Spot, api.Errno) { return seek.Find(z, of(s)) }

// Each kind, letter by letter: the name's letters count, of a cut the set's.
func TestFind(t *testing.T) {
	z := tidy("A.", "a. NS ns.a.", "A. SOA ns.a. a. 1 2 3 4 5", "NS.a. A 10.0.0.1", "*.w.a. A 10.0.0.3", "B.a. NS ns.b.a.", "ns.b.A. A 10.0.0.2", "x.y.E.a. TXT x", "x.*.s.a. TXT x", "*.*.m.a. TXT x", "e.u.a. TXT x", "f.e.u.a. TXT x", "*.u.a. TXT x", "g.*.u.a. TXT x", "D.c.a. NS ns.", "d.*.v.a. NS ns.", "e.*.v.a. A 10.0.0.5")
	for n, want := range map[string]found{
		// Sets at a name; the origin's, too, whatever is under it.
		"a.": {api.Exact, "a.", "a."}, "A.": {api.Exact, "A.", "A."},
		"ns.a.": {api.Exact, "ns.a.", "ns.a."}, "nS.A.": {api.Exact, "nS.A.", "nS.A."},
		"X.y.e.a.": {api.Exact, "X.y.e.a.", "X.y.e.a."},
		"E.U.a.":   {api.Exact, "E.U.a.", "E.U.a."}, "f.e.U.a.": {api.Exact, "f.e.U.a.", "f.e.U.a."},
		// A star that is itself an owner; and a name under it.
		"*.w.A.": {api.Exact, "*.w.A.", "*.w.A."}, "*.*.M.a.": {api.Exact, "*.*.M.a.", "*.*.M.a."}, "*.u.a.": {api.Exact, "*.u.a.", "*.u.a."}, "G.*.u.a.": {api.Exact, "G.*.u.a.", "G.*.u.a."},
		// No set, but names under it; their stars count for nothing.
		"e.a.": {api.Empty, "", "e.a."}, "Y.E.a.": {api.Empty, "", "Y.E.a."}, "W.a.": {api.Empty, "", "W.a."}, "s.a.": {api.Empty, "", "s.a."}, "*.S.a.": {api.Empty, "", "*.S.a."}, "m.a.": {api.Empty, "", "m.a."}, "*.m.a.": {api.Empty, "", "*.m.a."}, "c.a.": {api.Empty, "", "c.a."}, "*.v.a.": {api.Empty, "", "*.v.a."}, "u.a.": {api.Empty, "", "u.a."},
		// The closest name's star, with sets at it or under it, one label above, or many.
		"Q.w.a.": {api.Wild, "*.w.a.", "w.a."}, "q.W.A.": {api.Wild, "*.W.A.", "W.A."}, "p.q.W.a.": {api.Wild, "*.W.a.", "W.a."}, "*.q.w.a.": {api.Wild, "*.w.a.", "w.a."}, "**.w.a.": {api.Wild, "*.w.a.", "w.a."},
		"q.s.a.": {api.Wild, "*.s.a.", "s.a."}, "q.m.a.": {api.Wild, "*.m.a.", "m.a."}, "q.*.m.a.": {api.Wild, "*.*.m.a.", "*.m.a."}, "p.q.*.M.a.": {api.Wild, "*.*.M.a.", "*.M.a."}, "q.u.a.": {api.Wild, "*.u.a.", "u.a."}, "q.v.a.": {api.Wild, "*.v.a.", "v.a."}, "d.q.v.a.": {api.Wild, "*.v.a.", "v.a."},
		// A name that is there hides the star beside it; a star stands for no names under itself.
		"q.e.u.a.": {api.None, "", "e.u.a."}, "q.f.e.u.A.": {api.None, "", "f.e.u.A."}, "q.*.u.a.": {api.None, "", "*.u.a."}, "q.*.w.a.": {api.None, "", "*.w.a."}, "*.*.w.a.": {api.None, "", "*.w.a."}, "q.*.s.a.": {api.None, "", "*.s.a."}, "q.g.*.u.a.": {api.None, "", "g.*.u.a."}, "q.*.*.m.a.": {api.None, "", "*.*.m.a."},
		"Q.a.": {api.None, "", "a."}, "q.A.": {api.None, "", "A."}, "*.a.": {api.None, "", "a."}, "q.ns.a.": {api.None, "", "ns.a."}, "p.q.NS.a.": {api.None, "", "NS.a."}, "*.ns.a.": {api.None, "", "ns.a."}, "q.e.a.": {api.None, "", "e.a."}, "x.q.E.a.": {api.None, "", "E.a."}, "x.x.y.e.a.": {api.None, "", "x.y.e.a."}, "q.c.a.": {api.None, "", "c.a."}, "q.*.v.a.": {api.None, "", "*.v.a."}, "ww.a.": {api.None, "", "a."},
		// A cut, whatever stands there.
		"b.a.": {api.Beyond, "B.a.", ""}, "b.A.": {api.Beyond, "B.a.", ""}, "ns.b.a.": {api.Beyond, "B.a.", ""}, "x.ns.b.a.": {api.Beyond, "B.a.", ""}, "q.B.a.": {api.Beyond, "B.a.", ""}, "*.b.a.": {api.Beyond, "B.a.", ""}, "d.c.a.": {api.Beyond, "D.c.a.", ""}, "q.d.c.a.": {api.Beyond, "D.c.a.", ""}, "d.*.v.a.": {api.Beyond, "d.*.v.a.", ""}, "q.D.*.v.a.": {api.Beyond, "d.*.v.a.", ""},
	} {
		finds(t, z, of(n), want.spot())
		if want.kind != api.Beyond {
			nears(t, z, of(n), of(want.closest))
		}
		all(t, z, of(n))
	}
}

// Of each two kinds that could both be said of a name the one that is named first is told.
func TestTwoKinds(t *testing.T) {
	z := tidy("a.", with("*.w.a. A 10.0.0.3", "b.a. A 10.0.0.4", "*.b.a. A 10.0.0.5", "x.y.b.a. A 10.0.0.6", "d.a. NS x.", "x.d.a. AAAA ::1", "e.a. TXT x", "*.e.a. TXT x", "*.y.e.a. TXT x", "*.a. TXT x", "c.a. NS x.")...)
	type pair struct{ told, also api.Kind }
	seen := map[pair]bool{}
	for n, p := range map[string]pair{
		"b.a.":     {api.Beyond, api.Exact}, // sets of its own, besides the NS set
		"c.a.":     {api.Beyond, api.Exact}, // the NS set alone
		"ns.b.a.":  {api.Beyond, api.Exact},
		"*.b.a.":   {api.Beyond, api.Exact},
		"x.y.b.a.": {api.Beyond, api.Exact},
		"y.b.a.":   {api.Beyond, api.Empty},
		"d.a.":     {api.Beyond, api.Empty},
		"q.b.a.":   {api.Beyond, api.Wild},
		"q.y.b.a.": {api.Beyond, api.None},
		"q.d.a.":   {api.Beyond, api.None},
		"a.":       {api.Exact, api.Empty},
		"e.a.":     {api.Exact, api.Empty},
		"*.e.a.":   {api.Exact, api.Empty},
		"E.A.":     {api.Exact, api.Wild},
		"A.":       {api.Exact, api.Wild},
		"ns.a.":    {api.Exact, api.None},
		"y.e.a.":   {api.Empty, api.Wild},
		"w.a.":     {api.Empty, api.Wild},
		"Y.e.a.":   {api.Empty, api.None},
		"q.a.":     {api.Wild, api.None},
		"q.y.e.a.": {api.Wild, api.None},
	} {
		if a := applies(z, of(n)); !a[p.told] || !a[p.also] {
			t.Errorf("%s could be %v", n, a)
		}
		if s, e := seekFind(z, n); e != api.OK || s.Kind != p.told {
			t.Errorf("Find(%s) = %v, %d", n, s, e)
		}
		all(t, z, of(n))
		seen[p] = true
	}
	order := []api.Kind{api.Beyond, api.Exact, api.Empty, api.Wild, api.None}
	for i, told := range order {
		for _, also := range order[i+1:] {
			if !seen[pair{told, also}] {
				t.Errorf("%d and %d are not both said", told, also)
			}
		}
	}
}

// The root as the origin; what is there there may be the root itself.
func TestRoot(t *testing.T) {
	plain := tidy(".", ". NS a.", ". SOA a. a. 1 2 3 4 5", "x.y. A 10.0.0.1")
	wild := tidy(".", ". NS a.", ". SOA a. a. 1 2 3 4 5", "x.y. A 10.0.0.1", "*. A 10.0.0.2", "c. NS x.", "*.c. A 10.0.0.2")
	for _, c := range []struct {
		z    api.Zone
		n    string
		want found
	}{
		{plain, ".", found{api.Exact, ".", "."}}, {plain, "q.", found{api.None, "", "."}}, {plain, "p.Q.", found{api.None, "", "."}}, {plain, "*.", found{api.None, "", "."}}, {plain, "Y.", found{api.Empty, "", "Y."}}, {plain, "q.Y.", found{api.None, "", "Y."}},
		{wild, ".", found{api.Exact, ".", "."}}, {wild, "q.", found{api.Wild, "*.", "."}}, {wild, "p.Q.", found{api.Wild, "*.", "."}}, {wild, "*.", found{api.Exact, "*.", "*."}}, {wild, "q.*.", found{api.None, "", "*."}}, {wild, "q.Y.", found{api.None, "", "Y."}}, {wild, "C.", found{api.Beyond, "c.", ""}}, {wild, "q.C.", found{api.Beyond, "c.", ""}},
	} {
		finds(t, c.z, of(c.n), c.want.spot())
		all(t, c.z, of(c.n))
	}
}

// An origin whose letters are great, or small, or both, and names whose letters aren't: the origin is told as the name has it.
func TestLetters(t *testing.T) {
	for _, o := range []string{"b.a.", "B.A.", "B.a."} {
		z := tidy(o, "B.a. NS x.", "b.A. SOA a. a. 1 2 3 4 5", "*.W.b.a. TXT x", "C.b.a. NS x.")
		for n, want := range map[string]found{"b.a.": {api.Exact, "b.a.", "b.a."}, "B.A.": {api.Exact, "B.A.", "B.A."}, "Q.b.A.": {api.None, "", "b.A."}, "q.w.B.a.": {api.Wild, "*.w.B.a.", "w.B.a."}, "W.B.A.": {api.Empty, "", "W.B.A."}, "q.c.B.A.": {api.Beyond, "C.b.a.", ""}} {
			finds(t, z, of(n), want.spot())
			all(t, z, of(n))
		}
	}
	// Letters alone are folded, and those of A to Z alone.
	z := tidy("a.", apex, soa, `\193.a. TXT x`, `\091.a. TXT x`, `x\.y.a. TXT x`, `*\.z.a. TXT x`, `\042.v.a. TXT x`)
	for _, c := range []struct {
		n    api.Name
		kind api.Kind
	}{{api.Name{"\xc1", "a"}, api.Exact}, {api.Name{"\xe1", "a"}, api.None}, {api.Name{"[", "A"}, api.Exact}, {api.Name{"{", "a"}, api.None}, {api.Name{"X.Y", "a"}, api.Exact}, {api.Name{"y", "a"}, api.None}, {api.Name{"x", "y", "a"}, api.None}, {api.Name{"q", "z", "a"}, api.None}, {api.Name{"*.z", "a"}, api.Exact}, {api.Name{"q", "v", "a"}, api.Wild}} {
		if kind := all(t, z, c.n); kind != c.kind {
			t.Errorf("%q: %d", c.n, kind)
		}
		if s, _ := seek.Find(z, c.n); s.Kind != c.kind {
			t.Errorf("Find(%q) = %v", c.n, s)
		}
	}
}

// A star at the origin stands for all names whose closest one is the origin, beyond a cut for none.
func TestStars(t *testing.T) {
	z := tidy("a.", with("*.a. A 10.0.0.9", "*.b.a. A 10.0.0.3", "*.*.b.a. A 10.0.0.3")...)
	for n, want := range map[string]found{
		"q.a.": {api.Wild, "*.a.", "a."}, "p.q.A.": {api.Wild, "*.A.", "A."}, "*.a.": {api.Exact, "*.a.", "*.a."}, "*.q.a.": {api.Wild, "*.a.", "a."}, "x.*.a.": {api.None, "", "*.a."}, "*.*.a.": {api.None, "", "*.a."}, "q.ns.a.": {api.None, "", "ns.a."}, "*.ns.a.": {api.None, "", "ns.a."}, "ns.a.": {api.Exact, "ns.a.", "ns.a."},
		"q.b.a.": {api.Beyond, "b.a.", ""}, "*.b.a.": {api.Beyond, "b.a.", ""}, "*.*.b.a.": {api.Beyond, "b.a.", ""}, "q.*.B.a.": {api.Beyond, "b.a.", ""},
	} {
		finds(t, z, of(n), want.spot())
		all(t, z, of(n))
	}
	for n, want := range map[string]string{"q.b.a.": "b.a.", "*.B.a.": "*.B.a.", "p.q.*.b.a.": "*.b.a.", "q.*.*.b.A.": "*.*.b.A."} {
		nears(t, z, of(n), of(want))
	}
}

// The closest name of a name beyond a cut, with the name's letters: the cut, or one under it that has addresses, or names with addresses under it.
func TestClosestBeyond(t *testing.T) {
	z := tidy("A.", with("ns.x.B.a. A 10.0.0.3", "C.c.a. NS x.")...)
	for n, want := range map[string]string{
		"b.a.": "b.a.", "B.A.": "B.A.", "q.B.a.": "B.a.", "p.q.b.a.": "b.a.", "NS.b.a.": "NS.b.a.", "q.NS.b.a.": "NS.b.a.", "X.b.a.": "X.b.a.", "q.X.b.a.": "X.b.a.", "ns.x.b.A.": "ns.x.b.A.", "o.p.q.nS.x.b.a.": "nS.x.b.a.", "c.C.a.": "c.C.a.", "q.c.C.a.": "c.C.a.",
	} {
		nears(t, z, of(n), of(want))
		if kind := all(t, z, of(n)); kind != api.Beyond {
			t.Errorf("%s: %d", n, kind)
		}
	}
}

// Closest names of every number of labels less, up to all of 127.
func TestDeep(t *testing.T) {
	deep := slices.Repeat(api.Name{"b"}, 127)
	for _, top := range []int{0, 1, 5, 126, 127} {
		o := deep[127-top:]
		for _, c := range []int{top, top + 1, 60, 125, 126, 127} {
			if c < top || c > 127 {
				continue
			}
			z := api.Zone{Origin: o, Sets: []api.Set{set(o, api.NS, host(nil)), set(o, api.SOA, api.Data{Names: []api.Name{nil, nil}, Nums: make([]uint32, 5)})}}
			if c > top {
				z.Sets = append(z.Sets, set(deep[127-c:], api.TXT, txt()))
			}
			for depth := top; depth <= 127; depth++ {
				n := slices.Repeat(api.Name{"B"}, depth)
				nears(t, z, n, n[max(0, depth-c):])
				want := api.Spot{Kind: api.Exact, Node: n, Closest: n}
				switch {
				case depth > c:
					want = api.Spot{Closest: n[depth-c:]}
				case depth < c && depth > top:
					want = api.Spot{Kind: api.Empty, Closest: n}
				}
				finds(t, z, n, want)
			}
		}
	}
}

// A closest name so long that no star may be ahead of it; and one that is just short enough.
func TestLong(t *testing.T) {
	name254, name253 := api.Name{long63, long63, long63, long63[:60]}, api.Name{long63, long63, long63, long63[:59]}
	for _, o := range []api.Name{nil, name253[3:], name253[1:]} {
		base := []api.Set{set(o, api.NS, host(nil)), set(o, api.SOA, api.Data{Names: []api.Name{nil, nil}, Nums: make([]uint32, 5)})}
		for _, f := range []struct {
			owner, n api.Name
			kind     api.Kind
		}{
			{name253, name253, api.Exact}, {name253, star(name253), api.None}, {name253, slices.Concat(api.Name{"q"}, name253), api.None},
			{star(name253), name253, api.Empty}, {star(name253), star(name253), api.Exact}, {star(name253), slices.Concat(api.Name{"q"}, name253), api.Wild},
		} {
			z := api.Zone{Origin: o, Sets: append(base[:2:2], set(f.owner, api.TXT, txt()))}
			if kind := all(t, z, f.n); kind != f.kind {
				t.Errorf("%s: %d", brief(f), kind)
			}
		}
	}
	for _, n := range []api.Name{name254, name255} {
		for _, o := range []api.Name{nil, n[3:], n} {
			z := api.Zone{Origin: o, Sets: []api.Set{set(o, api.NS, host(nil)), set(o, api.SOA, api.Data{Names: []api.Name{nil, nil}, Nums: make([]uint32, 5)})}}
			if len(o) < 4 {
				z.Sets = append(z.Sets, set(n, api.TXT, txt()))
			}
			great := slices.Clone(n)
			great[0] = strings.ToUpper(great[0])
			finds(t, z, great, api.Spot{Kind: api.Exact, Node: great, Closest: great})
			nears(t, z, great, great)
		}
	}
}

// Every choice of a few sets, each name of a few labels.
func TestEvery(t *testing.T) {
	lines := []string{"b.a. A 10.0.0.1", "b.a. NS x.", "*.b.a. A 10.0.0.2", "*.a. TXT x", "x.*.a. A 10.0.0.3", "c.x.b.a. AAAA ::1", "x.b.a. NS y.", "c.c.a. TXT x"}
	var asked []api.Name
	for _, one := range []string{"", "b", "*", "c", "x"} {
		for _, two := range []string{"", "B", "*", "c"} {
			for _, three := range []string{"", "b", "*", "C"} {
				n := api.Name{one, two, three, "a"}
				asked = append(asked, slices.DeleteFunc(n, func(l string) bool { return l == "" }))
			}
		}
	}
	told := map[api.Kind]int{}
	zones := 0
	for bits := range 1 << len(lines) {
		l := []string{apex, soa}
		for i, s := range lines {
			if bits>>i&1 != 0 {
				l = append(l, s)
			}
		}
		z, may := tried("a.", l...)
		if !may {
			continue
		}
		zones++
		for _, n := range asked {
			told[all(t, z, n)]++
		}
	}
	for kind := range api.Beyond + 1 {
		if told[kind] < 500 {
			t.Errorf("%d is told %d times, in %d zones", kind, told[kind], zones)
		}
	}
}

// By chance.
func TestModel(t *testing.T) {
	r := rand.New(rand.NewSource(171))
	told := map[api.Kind]int{}
	for range 4000 {
		z := someZone(r)
		for range 8 {
			n := spelt(r, someName(r, z.Origin))
			if r.Intn(3) == 0 {
				n = spelt(r, someName(r, pick(r, z.Sets...).Owner))
			}
			told[all(t, z, n)]++
		}
		if t.Failed() {
			return
		}
	}
	for kind := range api.Beyond + 1 {
		if told[kind] < 1000 {
			t.Errorf("%d is told %d times", kind, told[kind])
		}
	}
}

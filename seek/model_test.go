package seek_test

import (
	"math/rand"
	"slices"
	"strings"

	"nomenclator/api"
	"nomenclator/name"
	"nomenclator/zone"
)

// Another telling of the chapter's words: all names that are there are gathered, and of those above a name the longest one is taken; the kinds are asked one by one, each by itself, and the first that applies is told.

const great = "ABCDEFGHIJKLMNOPQRSTUVWXYZ"

// plain tells a name folded, with a dot behind each label; dots in labels are told apart.
func plain(n api.Name) string {
	var b strings.Builder
	for _, l := range n {
		for i := range len(l) {
			c := l[i]
			switch {
			case strings.IndexByte(great, c) >= 0:
				c += 'a' - 'A'
			case c == '.' || c == '\\':
				b.WriteByte('\\')
			}
			b.WriteByte(c)
		}
		b.WriteByte('.')
	}
	return b.String()
}

// atOrUnder tells whether a name is at or under another one.
func atOrUnder(n, top api.Name) bool {
	return len(n) >= len(top) && plain(n[len(n)-len(top):]) == plain(top)
}

// there tells all names that are there, folded.
func there(z api.Zone) map[string]int {
	m := map[string]int{plain(z.Origin): len(z.Origin)}
	for _, s := range z.Sets {
		for depth := len(s.Owner); depth > len(z.Origin); depth-- {
			m[plain(s.Owner[len(s.Owner)-depth:])] = depth
		}
	}
	return m
}

func modelClosest(z api.Zone, n api.Name) api.Name {
	most := 0
	for above, depth := range there(z) {
		if depth <= len(n) && above == plain(n[len(n)-depth:]) {
			most = max(most, depth)
		}
	}
	return n[len(n)-most:]
}

func star(n api.Name) api.Name { return slices.Concat(api.Name{"*"}, n) }

// modelCut tells the cut with the fewest labels.
func modelCut(z api.Zone, n api.Name) (cut api.Name, is bool) {
	for _, s := range z.Sets {
		if s.Type == 2 && plain(s.Owner) != plain(z.Origin) && atOrUnder(n, s.Owner) && (!is || len(s.Owner) < len(cut)) {
			cut, is = s.Owner, true
		}
	}
	return cut, is
}

// applies tells which kinds could be said of a name, if no other one could.
func applies(z api.Zone, n api.Name) (l [5]bool) {
	m := there(z)
	_, l[api.Beyond] = modelCut(z, n)
	l[api.Exact] = slices.ContainsFunc(z.Sets, func(s api.Set) bool { return plain(s.Owner) == plain(n) })
	_, l[api.Empty] = m[plain(n)]
	_, l[api.Wild] = m[plain(star(modelClosest(z, n)))]
	l[api.None] = true
	return l
}

func modelSpot(z api.Zone, n api.Name) api.Spot {
	cut, _ := modelCut(z, n)
	c := modelClosest(z, n)
	told := [5]api.Spot{api.Beyond: {Node: cut}, api.Exact: {Node: n, Closest: n}, api.Empty: {Closest: n}, api.Wild: {Node: star(c), Closest: c}, api.None: {Closest: c}}
	for _, kind := range []api.Kind{api.Beyond, api.Exact, api.Empty, api.Wild} {
		if applies(z, n)[kind] {
			s := told[kind]
			s.Kind = kind
			return s
		}
	}
	return told[api.None]
}

func pick[T any](r *rand.Rand, l ...T) T { return l[r.Intn(len(l))] }

// someLabels are few, so that names often meet, their letters great and small.
var someLabels = []string{"a", "A", "b", "B", "c", "*", "*", "**", "", ".", "\xc1"}

// someName tells a name of a few labels under another one.
func someName(r *rand.Rand, top api.Name) api.Name {
	n := top
	for range r.Intn(5) {
		if l := pick(r, someLabels...); l != "" {
			n = slices.Concat(api.Name{l}, n)
		}
	}
	return n
}

// spelt tells a name with other letters, great or small.
func spelt(r *rand.Rand, n api.Name) api.Name {
	l := slices.Clone(n)
	for i := range l {
		switch r.Intn(3) {
		case 0:
			l[i] = strings.ToLower(l[i])
		case 1:
			l[i] = strings.ToUpper(l[i])
		}
	}
	if name.Same(l, n) {
		return l
	}
	return n
}

// someZone tells a zone that may be: of the sets that come those are taken with which it still may.
func someZone(r *rand.Rand) api.Zone {
	origin := pick(r, nil, of("a."), of("A."), of("b.A."), of("a.*."))
	ns := func(n api.Name) api.Set {
		return api.Set{Owner: spelt(r, n), Type: api.NS, Class: api.IN, Data: []api.Data{{Names: []api.Name{someName(r, origin)}}}}
	}
	z := api.Zone{Origin: origin, Sets: []api.Set{ns(origin), {Owner: spelt(r, origin), Type: api.SOA, Class: api.IN, Data: []api.Data{{Names: []api.Name{nil, nil}, Nums: make([]uint32, 5)}}}}}
	for range r.Intn(7) {
		s := api.Set{Owner: spelt(r, someName(r, z.Origin)), Type: pick(r, api.A, api.A, api.AAAA, api.TXT), Class: api.IN, TTL: 5}
		switch s.Type {
		case api.A:
			s.Data = []api.Data{{Raw: make([]byte, 4)}}
		case api.AAAA:
			s.Data = []api.Data{{Raw: make([]byte, 16)}}
		default:
			s.Data = []api.Data{{Texts: []string{"x"}}}
		}
		if r.Intn(4) == 0 {
			s = ns(s.Owner)
		}
		if more, e := zone.With(z, s); e == api.OK {
			z = more
		}
	}
	return z
}

package zone_test

import (
	"cmp"
	"math/rand"
	"slices"
	"strings"

	"nomenclator/api"
	"nomenclator/name"
	"nomenclator/rdata"
	"nomenclator/rrset"
)

// Another telling of the chapter's words: names are turned about and held against each other from the front, each fault is looked for alone, in sets of any order, set against set.

const great = "ABCDEFGHIJKLMNOPQRSTUVWXYZ"

func plain(s string) string {
	b := []byte(s)
	for i, c := range b {
		if strings.IndexByte(great, c) >= 0 {
			b[i] = c + 32
		}
	}
	return string(b)
}

// turn tells a name's labels, folded, the last one first.
func turn(n api.Name) []string {
	l := []string{}
	for _, s := range n {
		l = append([]string{plain(s)}, l...)
	}
	return l
}

func is(a, b api.Name) bool { return slices.Equal(turn(a), turn(b)) }

func atOrUnder(n, top api.Name) bool {
	return len(n) >= len(top) && slices.Equal(turn(n)[:len(top)], turn(top))
}

func under(n, top api.Name) bool { return atOrUnder(n, top) && !is(n, top) }

func compare(a, b api.Set) int {
	return cmp.Or(slices.Compare(turn(a.Owner), turn(b.Owner)), int(a.Type)-int(b.Type), int(a.Class)-int(b.Class))
}

// inOrder tells sets in their order: each is laid ahead of the first one that stands behind it.
func inOrder(l []api.Set) []api.Set {
	var all []api.Set
	for _, s := range l {
		all = among(all, s)
	}
	return all
}

func among(l []api.Set, s api.Set) []api.Set {
	at := slices.IndexFunc(l, func(o api.Set) bool { return compare(s, o) < 0 })
	if at < 0 {
		at = len(l)
	}
	return slices.Concat(l[:at], []api.Set{s}, l[at:])
}

// dataInOrder tells a set with its data in their order, if all may be.
func dataInOrder(s api.Set) api.Set {
	var l []api.Data
	for _, d := range s.Data {
		if rdata.Check(s.Type, d) != api.OK {
			return s
		}
		at := 0
		for at < len(l) && rdata.Compare(s.Type, l[at], d) <= 0 {
			at++
		}
		l = slices.Concat(l[:at], []api.Data{d}, l[at:])
	}
	s.Data = l
	return s
}

// The kinds of faults, in the order in which they are told.
const (
	origin = iota
	long
	inSet
	order
	class
	outside
	noSOA
	noApex
	alias
	starred
	occluded
	kinds
)

// faults tells of each kind of fault the error, if a zone has it.
func faults(z api.Zone) (l [kinds]api.Errno) {
	l[origin] = name.Check(z.Origin)
	if len(records(z.Sets)) > 2048 {
		l[long] = api.ErrLong
	}
	for i := len(z.Sets) - 1; i >= 0; i-- {
		l[inSet] = cmp.Or(rrset.Check(z.Sets[i]), l[inSet])
	}
	for kind, holds := range map[int]func(api.Zone) bool{order: modelRises, class: modelClasses, outside: modelInside, noSOA: modelSOA, noApex: modelApex, alias: modelAlias, starred: modelStar, occluded: modelHidden} {
		if !holds(z) {
			l[kind] = api.Errno(260 + kind - order)
		}
	}
	return l
}

func modelCheck(z api.Zone) api.Errno {
	l := faults(z)
	return cmp.Or(l[:]...)
}

func modelRises(z api.Zone) bool {
	for i, s := range z.Sets {
		for j := range s.Data {
			for k := range j {
				if rdata.Compare(s.Type, s.Data[k], s.Data[j]) >= 0 {
					return false
				}
			}
		}
		for _, o := range z.Sets[:i] {
			if compare(o, s) >= 0 || is(o.Owner, s.Owner) && o.Type == s.Type {
				return false
			}
		}
	}
	return true
}

// every tells whether something holds of all sets of a zone.
func every(z api.Zone, holds func(api.Set) bool) bool {
	return !slices.ContainsFunc(z.Sets, func(s api.Set) bool { return !holds(s) })
}

func modelClasses(z api.Zone) bool {
	return every(z, func(s api.Set) bool { return s.Class == 1 && s.Type != 0 && s.Type != 41 && s.Type != 255 })
}

func modelInside(z api.Zone) bool {
	return every(z, func(s api.Set) bool { return atOrUnder(s.Owner, z.Origin) })
}

func modelSOA(z api.Zone) bool {
	var l []api.Set
	for _, s := range z.Sets {
		if s.Type == 6 {
			l = append(l, s)
		}
	}
	return len(l) == 1 && is(l[0].Owner, z.Origin) && len(l[0].Data) == 1
}

func modelApex(z api.Zone) bool {
	return slices.ContainsFunc(z.Sets, func(s api.Set) bool { return s.Type == 2 && is(s.Owner, z.Origin) })
}

func modelAlias(z api.Zone) bool {
	for i, s := range z.Sets {
		if s.Type != 5 {
			continue
		}
		if len(s.Data) != 1 || is(s.Owner, z.Origin) {
			return false
		}
		for j, o := range z.Sets {
			if i != j && is(s.Owner, o.Owner) {
				return false
			}
		}
	}
	return true
}

func modelStar(z api.Zone) bool {
	return every(z, func(s api.Set) bool { return s.Type != 2 || len(s.Owner) == 0 || s.Owner[0] != "*" })
}

func modelHidden(z api.Zone) bool {
	for _, c := range modelCuts(z) {
		if !every(z, func(s api.Set) bool {
			beyond := under(s.Owner, c) || is(s.Owner, c) && s.Type != 2
			return !beyond || s.Type == 1 || s.Type == 28
		}) {
			return false
		}
	}
	return true
}

func modelCuts(z api.Zone) []api.Name {
	var l []api.Name
	for _, s := range z.Sets {
		if s.Type == 2 && under(s.Owner, z.Origin) {
			l = append(l, s.Owner)
		}
	}
	return l
}

// modelCut looks at each depth, from the root on, for a cut.
func modelCut(z api.Zone, n api.Name) (api.Name, bool) {
	for depth := range len(n) + 1 {
		for _, c := range modelCuts(z) {
			if is(c, n[len(n)-depth:]) {
				return c, true
			}
		}
	}
	return nil, false
}

// modelHas looks among all names above all owners.
func modelHas(z api.Zone, n api.Name) bool {
	there := is(n, z.Origin)
	for _, s := range z.Sets {
		for i := range len(s.Owner) + 1 {
			there = there || is(s.Owner[i:], n) && atOrUnder(n, z.Origin)
		}
	}
	return there
}

func modelAt(z api.Zone, n api.Name) []api.Set {
	var l []api.Set
	for _, s := range z.Sets {
		if is(s.Owner, n) {
			l = append(l, s)
		}
	}
	return l
}

// checked tells a zone, if it may be.
func checked(z api.Zone) (api.Zone, api.Errno) {
	if e := modelCheck(z); e != api.OK {
		return api.Zone{}, e
	}
	return z, api.OK
}

func modelOf(o api.Name, l []api.Record) (api.Zone, api.Errno) {
	made, e := rrset.Of(l)
	if e != api.OK {
		return api.Zone{}, e
	}
	z := api.Zone{Origin: o}
	for _, s := range made {
		z.Sets = among(z.Sets, dataInOrder(s))
	}
	return checked(z)
}

func modelWith(z api.Zone, s api.Set) (api.Zone, api.Errno) {
	if e := modelCheck(z); e != api.OK {
		return api.Zone{}, e
	}
	s = dataInOrder(s)
	at := slices.IndexFunc(z.Sets, func(o api.Set) bool { return is(o.Owner, s.Owner) && o.Type == s.Type && o.Class == s.Class })
	if at < 0 {
		return checked(api.Zone{Origin: z.Origin, Sets: among(z.Sets, s)})
	}
	return checked(api.Zone{Origin: z.Origin, Sets: slices.Concat(z.Sets[:at], []api.Set{s}, z.Sets[at+1:])})
}

func modelWithout(z api.Zone, n api.Name, t api.Type) (api.Zone, api.Errno) {
	if e := modelCheck(z); e != api.OK {
		return api.Zone{}, e
	}
	at := slices.IndexFunc(z.Sets, func(o api.Set) bool { return is(o.Owner, n) && o.Type == t && o.Class == 1 })
	if at < 0 {
		return api.Zone{}, api.ErrMissing
	}
	return checked(api.Zone{Origin: z.Origin, Sets: slices.Concat(z.Sets[:at], z.Sets[at+1:])})
}

func pick[T any](r *rand.Rand, l ...T) T { return l[r.Intn(len(l))] }

// someNames are names at, under, above and beside one another, their letters great and small.
var someNames = []string{".", "a.", "A.", "b.a.", "B.a.", "b.A.", "x.b.a.", "X.b.a.", "y.x.b.a.", "ns.b.a.", "ns.a.", "w.a.", "*.w.a.", "*.a.", "*.", "q.*.a.", "c.", "a.c.", "aa.", "ab.a.", "b.b.a.", "z.a."}

// someData tells data of a type, of few kinds, so that many are the same, or nearly so.
func someData(r *rand.Rand, t api.Type) api.Data {
	switch t {
	case api.A:
		return addr(r.Intn(4))
	case api.AAAA:
		return api.Data{Raw: slices.Concat(make([]byte, 15), []byte{byte(r.Intn(4))})}
	case api.NS, api.CNAME, api.PTR:
		return host(pick(r, someNames...))
	case api.SOA:
		return api.Data{Names: []api.Name{of(pick(r, "a.", "A.", "b.")), of("c.")}, Nums: []uint32{1, 2, 3, 4, 5}}
	case api.TXT:
		return api.Data{Texts: []string{pick(r, "a", "A", "b", "")}}
	}
	return api.Data{Raw: []byte{byte(r.Intn(4))}}
}

// someSet tells a set, now and then one that may not be.
func someSet(r *rand.Rand, owner string, t api.Type) api.Set {
	s := set(owner, t, someData(r, t))
	for r.Intn(4) == 0 {
		s.Data = append(s.Data, someData(r, t))
	}
	if r.Intn(3) != 0 {
		s = dataInOrder(s)
		s.Data = slices.CompactFunc(s.Data, func(a, b api.Data) bool { return rdata.Same(t, a, b) })
	}
	switch r.Intn(60) {
	case 0:
		s.Class = pick[api.Class](r, 0, 3, 255)
	case 1:
		s.Owner = api.Name{"", "a"}
	case 2:
		s.Data = nil
	case 3:
		s.Data = append(s.Data, api.Data{})
	}
	s.TTL = uint32(r.Intn(3))
	return s
}

var someTypes = []api.Type{api.A, api.A, api.A, api.AAAA, api.AAAA, api.NS, api.NS, api.CNAME, api.TXT, api.TXT, 99, api.SOA, api.OPT, 3}

// someZone tells a zone, about as often one that may be as one that may not.
func someZone(r *rand.Rand) api.Zone {
	top := pick(r, ".", "a.", "a.", "a.", "A.", "b.a.", "B.A.", "*.a.")
	z := api.Zone{Origin: of(top)}
	if r.Intn(20) != 0 {
		z.Sets = append(z.Sets, dataInOrder(set(top, api.NS, someData(r, api.NS))))
	}
	if r.Intn(20) != 0 {
		z.Sets = append(z.Sets, set(top, api.SOA, someData(r, api.SOA)))
	}
	for range r.Intn(6) {
		owner := pick(r, someNames...)
		if !atOrUnder(of(owner), z.Origin) && r.Intn(8) != 0 {
			owner = pick(r, "q.", "r.", "*.") + top
			owner = strings.ReplaceAll(owner, "..", ".")
		}
		z.Sets = append(z.Sets, someSet(r, owner, pick(r, someTypes...)))
	}
	if r.Intn(10) != 0 {
		z.Sets = inOrder(z.Sets)
	}
	if r.Intn(10) != 0 {
		z.Sets = slices.CompactFunc(z.Sets, func(a, b api.Set) bool { return compare(a, b) == 0 })
	}
	return z
}

package rrset

import (
	"nomenclator/api"
	"nomenclator/name"
	"nomenclator/rdata"
)

// Of makes sets of records. All records are looked at first, for what is wrong with one of them comes ahead of a set that is too long.
func Of(l []api.Record) ([]api.Set, api.Errno) {
	for _, r := range l {
		if e := checkRecord(r); e != api.OK {
			return nil, e
		}
	}
	g := gathering{places: map[key]int{}}
	for _, r := range l {
		if !g.take(r) {
			return nil, api.ErrLong
		}
	}
	return g.sets, api.OK
}

func checkRecord(r api.Record) api.Errno {
	if e := name.Check(r.Owner); e != api.OK {
		return e
	}
	return rdata.Check(r.Type, r.Data)
}

// key is by what records belong together: the owner is its folded bytes as a text.
type key struct {
	owner string
	typ   api.Type
	class api.Class
}

func keyOf(r api.Record) key {
	b, _ := name.Bytes(name.Fold(r.Owner))
	return key{owner: string(b), typ: r.Type, class: r.Class}
}

// gathering is the sets of the records that came so far, what each has, and where the set of a key stands.
type gathering struct {
	sets   []api.Set
	there  []content
	places map[key]int
}

// take takes a record that may be into its set, and tells whether there is room.
func (g *gathering) take(r api.Record) bool {
	at := g.place(r)
	s := &g.sets[at]
	s.TTL = min(s.TTL, r.TTL)
	if fresh, _ := g.there[at].add(r.Type, r.Data); fresh {
		s.Data = append(s.Data, rdata.Copy(r.Data))
	}
	return len(s.Data) <= api.MaxRecords
}

// place tells where a record's set stands: a new one, behind all others, if none is there yet.
func (g *gathering) place(r api.Record) int {
	k := keyOf(r)
	at, there := g.places[k]
	if !there {
		at = len(g.sets)
		g.places[k] = at
		g.sets = append(g.sets, api.Set{Owner: name.Copy(r.Owner), Type: r.Type, Class: r.Class, TTL: r.TTL})
		g.there = append(g.there, content{})
	}
	return at
}

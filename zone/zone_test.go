package zone_test

import (
	"bytes"
	"fmt"
	"slices"
	"strings"
	"testing"

	"nomenclator/api"
	"nomenclator/master"
	"nomenclator/zone"
)

// of tells the name that a text of labels with dots behind them is; the root is a dot alone.
func of(s string) api.Name {
	l := strings.Split(s, ".")
	if s == "." {
		return nil
	}
	return api.Name(l[:len(l)-1])
}

func set(owner string, t api.Type, l ...api.Data) api.Set {
	return api.Set{Owner: of(owner), Type: t, Class: api.IN, TTL: 60, Data: l}
}

func addr(n int) api.Data { return api.Data{Raw: []byte{10, 1, byte(n >> 8), byte(n)}} }

func addrs(n int) []api.Data {
	var l []api.Data
	for i := range n {
		l = append(l, addr(i))
	}
	return l
}

func host(s string) api.Data { return api.Data{Names: []api.Name{of(s)}} }

// part lies between two sets that are of one owner, type and class.
const part = "--"

// sets tells the sets that lines of master files say: those beside one another that have one owner, letter by letter, one type and one class are of one set.
func sets(lines ...string) []api.Set {
	var l []api.Set
	apart := true
	for _, s := range lines {
		if s == part {
			apart = true
			continue
		}
		r, f := master.Parse("$TTL 60\n"+s, nil)
		if f.Err != api.OK || len(r) != 1 {
			panic(s)
		}
		one := api.Set{Owner: r[0].Owner, Type: r[0].Type, Class: r[0].Class, TTL: r[0].TTL}
		if last := len(l) - 1; apart || !slices.Equal(l[last].Owner, one.Owner) || l[last].Type != one.Type || l[last].Class != one.Class {
			l = append(l, one)
		}
		l[len(l)-1].Data = append(l[len(l)-1].Data, r[0].Data)
		apart = false
	}
	return l
}

// as tells a zone of the sets as they stand.
func as(origin string, lines ...string) api.Zone {
	return api.Zone{Origin: of(origin), Sets: sets(lines...)}
}

// tidy tells a zone of the sets in their order.
func tidy(origin string, lines ...string) api.Zone {
	z := as(origin, lines...)
	z.Sets = inOrder(z.Sets)
	return z
}

// The chapter's zone, and the lines that no zone of this origin is without.
const (
	soa  = "a. SOA ns.a. a. 1 2 3 4 30"
	apex = "a. NS ns.a."
)

func example() []string {
	return []string{apex, soa, "b.a. NS ns.b.a.", "ns.b.a. A 10.0.0.2", "ns.a. A 10.0.0.1", "www.a. CNAME ns.a."}
}

func with(lines ...string) []string { return slices.Concat(example(), lines) }

// without tells the lines but one.
func without(line string, lines ...string) []string {
	return slices.DeleteFunc(with(lines...), func(s string) bool { return s == line })
}

// records tells the records of sets, as they stand.
func records(l []api.Set) []api.Record {
	var all []api.Record
	for _, s := range l {
		for _, d := range s.Data {
			all = append(all, api.Record{Owner: s.Owner, Type: s.Type, Class: s.Class, TTL: s.TTL, Data: d})
		}
	}
	return all
}

// alike tells whether data are field by field the same, letter by letter; nil and empty lists are.
func alike(a, b api.Data) bool {
	return slices.EqualFunc(a.Names, b.Names, slices.Equal[api.Name]) && slices.Equal(a.Nums, b.Nums) && slices.Equal(a.Texts, b.Texts) && bytes.Equal(a.Raw, b.Raw)
}

func equal(a, b api.Set) bool {
	return slices.Equal(a.Owner, b.Owner) && a.Type == b.Type && a.Class == b.Class && a.TTL == b.TTL && slices.EqualFunc(a.Data, b.Data, alike)
}

func equalSets(a, b []api.Set) bool { return slices.EqualFunc(a, b, equal) }

func equalZones(a, b api.Zone) bool {
	return slices.Equal(a.Origin, b.Origin) && equalSets(a.Sets, b.Sets)
}

func equalRecords(a, b []api.Record) bool {
	return slices.EqualFunc(a, b, func(x, y api.Record) bool {
		return slices.Equal(x.Owner, y.Owner) && x.Type == y.Type && x.Class == y.Class && x.TTL == y.TTL && alike(x.Data, y.Data)
	})
}

func brief(v any) string { return fmt.Sprintf("%.600s", fmt.Sprintf("%v", v)) }

// checks holds Check to what it must answer, and all that ask it first: they tell nothing beside an error.
func checks(t *testing.T, z api.Zone, want api.Errno) {
	t.Helper()
	if e := zone.Check(z); e != want {
		t.Errorf("Check(%s) = %d, not %d", brief(z), e, want)
	}
	if l, e := zone.Records(z); e != want || e != api.OK && len(l) != 0 {
		t.Errorf("Records(%s) = %s, %d, not %d", brief(z), brief(l), e, want)
	}
	if want == api.OK {
		return
	}
	some := set("q.a.", api.A, addr(1))
	if got, e := zone.With(z, some); e != want || !equalZones(got, api.Zone{}) {
		t.Errorf("With(%s) = %s, %d, not %d", brief(z), brief(got), e, want)
	}
	if got, e := zone.Without(z, of("www.a."), api.CNAME); e != want || !equalZones(got, api.Zone{}) {
		t.Errorf("Without(%s) = %s, %d, not %d", brief(z), brief(got), e, want)
	}
}

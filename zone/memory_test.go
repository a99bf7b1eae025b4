package zone_test

import (
	"reflect"
	"slices"
	"sync"
	"testing"

	"nomenclator/api"
	"nomenclator/zone"
)

// roomy tells a value of its own in which each list has spare room, where something stands that must be neither read nor written.
func roomy[T any](v T) T {
	own := reflect.New(reflect.TypeOf(&v).Elem()).Elem()
	own.Set(copied(reflect.ValueOf(&v).Elem(), 2))
	return own.Interface().(T)
}

// whole tells all that stands in a value's memory, the spare room too.
func whole(v any) any { return copied(reflect.ValueOf(v), -1).Interface() }

// copied copies a value deep: with so much spare room in each list, or, below 0, with what stands in the spare room.
func copied(v reflect.Value, room int) reflect.Value {
	own := reflect.New(v.Type()).Elem()
	switch v.Kind() {
	case reflect.Struct:
		for i := range v.NumField() {
			own.Field(i).Set(copied(v.Field(i), room))
		}
	case reflect.Slice:
		if room < 0 {
			v = v.Slice(0, v.Cap())
		}
		own.Set(reflect.MakeSlice(v.Type(), v.Len()+max(room, 0), v.Len()+max(room, 0)))
		for i := range v.Len() {
			own.Index(i).Set(copied(v.Index(i), room))
		}
		for i := v.Len(); i < own.Len(); i++ {
			own.Index(i).Set(spare(v.Type().Elem()))
		}
		own.SetLen(v.Len())
	default:
		own.Set(v)
	}
	return own
}

// spare tells what stands in spare room: sets, data, names that would spoil a zone.
func spare(t reflect.Type) reflect.Value {
	switch t {
	case reflect.TypeFor[string]():
		return reflect.ValueOf("spare")
	case reflect.TypeFor[byte]():
		return reflect.ValueOf(byte(77))
	case reflect.TypeFor[uint32]():
		return reflect.ValueOf(uint32(77))
	case reflect.TypeFor[api.Name]():
		return reflect.ValueOf(of("spare."))
	case reflect.TypeFor[api.Data]():
		return reflect.ValueOf(host("spare."))
	case reflect.TypeFor[api.Set]():
		return reflect.ValueOf(set("spare.", api.NS, host("spare.")))
	}
	return reflect.ValueOf(api.Record{Owner: of("spare."), Type: api.A, Data: addr(77)})
}

// span is the memory of a list, its spare room too.
type span struct{ from, to uintptr }

func spans(v reflect.Value) []span {
	var l []span
	switch v.Kind() {
	case reflect.Struct:
		for i := range v.NumField() {
			l = append(l, spans(v.Field(i))...)
		}
	case reflect.Slice:
		if size := uintptr(v.Cap()) * v.Type().Elem().Size(); size > 0 {
			l = append(l, span{v.Pointer(), v.Pointer() + size})
		}
		for i := range v.Len() {
			l = append(l, spans(v.Index(i))...)
		}
	}
	return l
}

// apart tells whether no two lists of some values share memory.
func apart(all ...any) bool {
	var l []span
	for _, v := range all {
		l = append(l, spans(reflect.ValueOf(v))...)
	}
	slices.SortFunc(l, func(a, b span) int { return int(a.from) - int(b.from) })
	for i := 1; i < len(l); i++ {
		if l[i].from < l[i-1].to {
			return false
		}
	}
	return true
}

// given is all that is handed in to one call or another.
type given struct {
	Zone api.Zone
	List []api.Record
	Set  api.Set
	Name api.Name
}

func lists() []given {
	z := as("A.", "a. NS b.", apex, soa, "a. MX 1 x.", "a. TXT x y", "B.a. NS x.", "B.a. NS ns.b.a.", "ns.b.a. A 10.0.0.1", "ns.b.a. A 10.0.0.2", `q.a. TYPE99 \# 3 010203`, "www.a. CNAME ns.a.")
	turned := z
	turned.Sets = slices.Clone(z.Sets)
	slices.Reverse(turned.Sets)
	var l []given
	for _, n := range []string{"a.", "b.A.", "x.b.a.", "ns.B.a.", "q.a.", "www.a.", "none."} {
		for _, s := range []api.Set{set("q.a.", 99, api.Data{Raw: []byte{2}}, api.Data{Raw: []byte{1}}), set("Q.a.", api.TXT, api.Data{Texts: []string{"y", "z"}}, api.Data{Texts: []string{"x"}}), set("a.", api.SOA, z.Sets[1].Data...), set("c.", api.A, addr(1)), set("q.a.", api.A, addr(1), addr(1)), {}} {
			l = append(l, given{z, records(turned.Sets), s, of(n)}, given{turned, slices.Concat(records(z.Sets), records(z.Sets)), s, of(n)})
		}
	}
	return l
}

// calls are all calls that tell lists.
var calls = map[string]func(g given) any{
	"Of":      func(g given) any { z, _ := zone.Of(g.Zone.Origin, g.List); return z },
	"Records": func(g given) any { l, _ := zone.Records(g.Zone); return l },
	"At":      func(g given) any { return zone.At(g.Zone, g.Name) },
	"Cut":     func(g given) any { n, _ := zone.Cut(g.Zone, g.Name); return n },
	"Cuts":    func(g given) any { return zone.Cuts(g.Zone) },
	"With":    func(g given) any { z, _ := zone.With(g.Zone, g.Set); return z },
	"Without": func(g given) any { z, _ := zone.Without(g.Zone, g.Name, g.Set.Type); return z },
	"Check, Has": func(g given) any {
		return []api.Set{{TTL: uint32(zone.Check(g.Zone))}, {Class: map[bool]api.Class{true: 1}[zone.Has(g.Zone, g.Name)]}}
	},
}

// Rule 4: an answer is new memory, the lists of one lie apart; what was handed in is not changed, its spare room neither read nor written.
func TestMemory(t *testing.T) {
	told := map[string]int{}
	for i, g := range lists() {
		for what, call := range calls {
			want := call(g)
			lent := roomy(g)
			before := whole(lent)
			one, two := call(lent), call(lent)
			if !reflect.DeepEqual(one, want) || !reflect.DeepEqual(two, want) {
				t.Errorf("%d: %s tells %s, %s, not %s", i, what, brief(one), brief(two), brief(want))
			}
			if !reflect.DeepEqual(whole(lent), before) {
				t.Errorf("%d: %s changes what was handed in", i, what)
			}
			if !apart(lent, one, two) {
				t.Errorf("%d: %s shares memory", i, what)
			}
			if len(spans(reflect.ValueOf(one))) > 0 {
				told[what]++
			}
		}
	}
	for what := range calls {
		if told[what] < 3 {
			t.Errorf("%s tells something %d times alone", what, told[what])
		}
	}
}

// A list that is lent twice is told as two.
func TestLentTwice(t *testing.T) {
	z := as("a.", apex, soa)
	s := set("a.", api.NS, host("ns.a."))
	s.Data[0].Names[0] = z.Origin
	s.Owner = z.Origin
	z.Sets[0] = s
	more, e := zone.With(z, api.Set{Owner: z.Origin, Type: api.PTR, Class: 1, TTL: 60, Data: s.Data})
	back, f := zone.With(z, s)
	if e != api.OK || f != api.OK || !apart(z.Origin, more) || !apart(z.Origin, back) {
		t.Errorf("%s, %d; %s, %d", brief(more), e, brief(back), f)
	}
	l := records(more.Sets)
	l = append(l, l...)
	again, e := zone.Of(z.Origin, l)
	if e != api.OK || !equalZones(again, more) || !apart(again, more) {
		t.Errorf("%s, %d", brief(again), e)
	}
	if l, e := zone.Records(z); e != api.OK || !apart(l, z.Origin) {
		t.Errorf("%s, %d", brief(l), e)
	}
	if l := zone.At(z, z.Origin); len(l) != 2 || !apart(l, z.Origin) {
		t.Errorf("%s", brief(l))
	}
	two := api.Zone{Origin: of("a."), Sets: []api.Set{set("b.a.", api.NS), set("b.a.", api.NS)}}
	two.Sets[1].Owner = two.Sets[0].Owner
	if l := zone.Cuts(two); len(l) != 2 || !apart(l, two.Sets[0].Owner) {
		t.Errorf("%s", brief(l))
	}
}

// What a caller does to what was handed in, or back, tells in no answer.
func TestZoneIsNew(t *testing.T) {
	z := as("a.", example()...)
	s := sets("q.a. TXT x")[0]
	want := as("a.", apex, soa, "b.a. NS ns.b.a.", "ns.b.a. A 10.0.0.2", "ns.a. A 10.0.0.1", "q.a. TXT x", "www.a. CNAME ns.a.")
	more, _ := zone.With(z, s)
	c, _ := zone.Cut(z, of("x.b.a."))
	at := zone.At(z, of("www.a."))
	c[0], at[0].Owner[0], at[0].Data[0].Names[0][0] = "spoilt", "spoilt", "spoilt"
	zone.Cuts(z)[0][0] = "spoilt"
	s.Owner[0], s.Data[0].Texts[0] = "spoilt", "spoilt"
	if !equalZones(z, as("a.", example()...)) {
		t.Errorf("%s", brief(z))
	}
	z.Origin[0], z.Sets[0].TTL, z.Sets[3].Data[0].Raw[0] = "b", 9, 9
	if !equalZones(more, want) {
		t.Errorf("%s", brief(more))
	}
	l, _ := zone.Records(more)
	l[0].Owner[0], l[4].Data.Raw[0], l[5].Data.Texts[0] = "spoilt", 9, "spoilt"
	if !equalZones(more, want) {
		t.Errorf("%s", brief(more))
	}
}

// nil and empty lists are the same.
func TestNilLists(t *testing.T) {
	empty := api.Data{Names: []api.Name{}, Nums: []uint32{}, Texts: []string{}, Raw: []byte{}}
	for _, n := range []api.Name{nil, {}} {
		for _, l := range [][]api.Set{nil, {}} {
			z := api.Zone{Origin: n, Sets: l}
			checks(t, z, api.ErrSOA)
			finds(t, z, nil)
			finds(t, z, api.Name{})
			gets(t, z, api.Set{}, api.Zone{}, api.ErrSOA)
			loses(t, z, n, 0, api.Zone{}, api.ErrSOA)
		}
		z := as(".", ". NS .", ". SOA . . 1 2 3 4 5", `. TYPE99 \# 0`)
		for i := range z.Sets {
			z.Sets[i].Owner = n
		}
		z.Origin, z.Sets[0].Data[0].Names[0], z.Sets[2].Data[0] = n, n, empty
		z.Sets[1].Data[0].Texts = []string{}
		checks(t, z, api.OK)
		finds(t, z, nil)
		makes(t, n, records(z.Sets), z, api.OK)
		gets(t, z, api.Set{Owner: n, Type: 99, Class: 1, TTL: 60, Data: []api.Data{{}}}, z, api.OK)
		gets(t, z, api.Set{Owner: n, Type: 99, Class: 1, Data: []api.Data{{}, empty}}, api.Zone{}, api.ErrThere)
		gets(t, z, api.Set{Owner: n, Type: 99, Class: 1, Data: []api.Data{}}, api.Zone{}, api.ErrMissing)
		loses(t, z, nil, 98, api.Zone{}, api.ErrMissing)
	}
}

// P1: the same each time, also at once.
func TestSameEachTime(t *testing.T) {
	g := roomy(lists()[0])
	var all sync.WaitGroup
	for what, call := range calls {
		want := call(g)
		for range 3 {
			all.Go(func() {
				for range 50 {
					if got := call(g); !reflect.DeepEqual(got, want) {
						t.Errorf("%s tells %s, not %s", what, brief(got), brief(want))
					}
				}
			})
		}
	}
	all.Wait()
}

// P1: the calls end whatever they are given, and tell nothing beside an error.
func TestCalm(t *testing.T) {
	odds := odd()
	many := api.Zone{Origin: of("a."), Sets: slices.Repeat([]api.Set{set("b.a.", api.NS)}, 70000)}
	labels := api.Zone{Origin: slices.Repeat(api.Name{""}, 70000), Sets: []api.Set{{Owner: slices.Repeat(api.Name{""}, 70001), Type: api.NS, Data: make([]api.Data, 70000)}}}
	if n, there := zone.Cut(labels, slices.Repeat(api.Name{""}, 70002)); !there || len(n) != 70001 || !zone.Has(labels, n) || len(zone.At(labels, n)) != 1 || len(zone.Cuts(many)) != 70000 || len(zone.At(many, of("b.a."))) != 70000 {
		t.Error("great zones")
	}
	odds = append(odds, many, labels)
	sets := []api.Set{{}, {Type: api.NS}, {Owner: api.Name{""}}, set("q.a.", api.A, make([]api.Data, 70000)...), set("b.a.", api.NS, addrs(3)...), set("q.a.", api.NS, api.Data{Names: make([]api.Name, 70000), Nums: make([]uint32, 70000), Texts: make([]string, 70000), Raw: make([]byte, 70000)}), {Owner: slices.Repeat(api.Name{"a"}, 70000), Type: 65535, Class: 65535, TTL: 4294967295}}
	for _, z := range append(odds, as("a.", example()...)) {
		wrong := zone.Check(z)
		if l, e := zone.Records(z); e != wrong || e != api.OK && len(l) != 0 {
			t.Errorf("Records(%s) = %s, %d, not %d", brief(z), brief(l), e, wrong)
		}
		for _, s := range sets {
			if got, e := zone.With(z, s); e == api.OK || wrong != api.OK && e != wrong || !equalZones(got, api.Zone{}) {
				t.Errorf("With(%s, %s) = %s, %d", brief(z), brief(s), brief(got), e)
			}
			if got, e := zone.Without(z, s.Owner, s.Type); wrong != api.OK && e != wrong || e != api.OK && !equalZones(got, api.Zone{}) {
				t.Errorf("Without(%s, %q) = %s, %d", brief(z), brief(s.Owner), brief(got), e)
			}
			if got, e := zone.Of(z.Origin, records([]api.Set{s})); e == api.OK || !equalZones(got, api.Zone{}) {
				t.Errorf("Of(%s) = %s, %d", brief(s), brief(got), e)
			}
		}
	}
}

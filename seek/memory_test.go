package seek_test

import (
	"fmt"
	"reflect"
	"slices"
	"sync"
	"testing"

	"nomenclator/api"
	"nomenclator/seek"
)

// roomy tells a value of its own in which each list has spare room, where something stands that must be neither read nor written.
func roomy[T any](v T) T {
	own := reflect.New(reflect.TypeOf(&v).Elem()).Elem()
	own.Set(copied(reflect.ValueOf(&v).Elem(), 2))
	return own.Interface().(T)
}

// whole tells all that stands in a value's memory, the spare room too.
func whole(v any) any { return copied(reflect.ValueOf(v), -1).Interface() }

// copied copies a value deep: with so much spare room in each list, or, below 0, with what stands in the spare room.
func copied(v reflect.Value, room int) reflect.Value {
	own := reflect.New(v.Type()).Elem()
	switch v.Kind() {
	case reflect.Struct:
		for i := range v.NumField() {
			own.Field(i).Set(copied(v.Field(i), room))
		}
	case reflect.Slice:
		if room < 0 {
			v = v.Slice(0, v.Cap())
		}
		own.Set(reflect.MakeSlice(v.Type(), v.Len()+max(room, 0), v.Len()+max(room, 0)))
		for i := range v.Len() {
			own.Index(i).Set(copied(v.Index(i), room))
		}
		for i := v.Len(); i < own.Len(); i++ {
			own.Index(i).Set(spare(v.Type().Elem()))
		}
		own.SetLen(v.Len())
	default:
		own.Set(v)
	}
	return own
}

// spare tells what stands in spare room: sets, data, names that would spoil a zone.
func spare(t reflect.Type) reflect.Value {
	switch t {
	case reflect.TypeFor[string]():
		return reflect.ValueOf("spare")
	case reflect.TypeFor[byte]():
		return reflect.ValueOf(byte(77))
	case reflect.TypeFor[uint32]():
		return reflect.ValueOf(uint32(77))
	case reflect.TypeFor[api.Name]():
		return reflect.ValueOf(of("spare."))
	case reflect.TypeFor[api.Data]():
		return reflect.ValueOf(host(of("spare.")))
	}
	return reflect.ValueOf(set(of("spare."), api.NS, host(of("spare."))))
}

// span is the memory of a list, its spare room too.
type span struct{ from, to uintptr }

func spans(v reflect.Value) []span {
	var l []span
	switch v.Kind() {
	case reflect.Struct:
		for i := range v.NumField() {
			l = append(l, spans(v.Field(i))...)
		}
	case reflect.Slice:
		if size := uintptr(v.Cap()) * v.Type().Elem().Size(); size > 0 {
			l = append(l, span{v.Pointer(), v.Pointer() + size})
		}
		for i := range v.Len() {
			l = append(l, spans(v.Index(i))...)
		}
	}
	return l
}

// apart tells whether no two lists of some values share memory.
func apart(all ...any) bool {
	var l []span
	for _, v := range all {
		l = append(l, spans(reflect.ValueOf(v))...)
	}
	slices.SortFunc(l, func(a, b span) int { return int(a.from) - int(b.from) })
	for i := 1; i < len(l); i++ {
		if l[i].from < l[i-1].to {
			return false
		}
	}
	return true
}

// given is all that is handed in.
type given struct {
	Zone api.Zone
	Name api.Name
}

func lists() []given {
	z := tidy("A.", with("*.w.A. A 10.0.0.3", `q.a. TYPE99 \# 3 010203`, "a. MX 1 x.", "a. TXT x y")...)
	var l []given
	for _, s := range []string{"a.", "NS.a.", "W.a.", "Q.w.A.", "p.q.W.a.", "*.w.a.", "r.A.", "x.r.a.", "b.a.", "x.B.a.", "NS.b.a.", "c.", "."} {
		l = append(l, given{z, of(s)})
	}
	return append(l, given{z, api.Name{""}}, given{api.Zone{Origin: z.Origin, Sets: z.Sets[1:]}, of("a.")})
}

// told is what all three calls tell.
type told struct {
	Spot         api.Spot
	Closest      api.Name
	Depth        int
	None, Of, At api.Errno
}

func ask(g given) (v told) {
	v.Spot, v.None = seek.Find(g.Zone, g.Name)
	v.Closest, v.Of = seek.Closest(g.Zone, g.Name)
	v.Depth, v.At = seek.Depth(g.Zone, g.Name)
	return v
}

// Rule 4: an answer is new memory, the lists of one lie apart; what was handed in is not changed, its spare room neither read nor written.
func TestMemory(t *testing.T) {
	for i, g := range lists() {
		want := ask(g)
		lent := roomy(g)
		before := whole(lent)
		one, two := ask(lent), ask(lent)
		if !reflect.DeepEqual(one, want) || !reflect.DeepEqual(two, want) {
			t.Errorf("%d: %s, %s, not %s", i, brief(one), brief(two), brief(want))
		}
		if !reflect.DeepEqual(whole(lent), before) {
			t.Errorf("%d: what was handed in is changed", i)
		}
		if !apart(lent, one, two) {
			t.Errorf("%d: memory is shared", i)
		}
	}
}

// The same holds where the name that is asked is a list of the zone's own.
func TestLentTwice(t *testing.T) {
	z := example()
	for _, s := range z.Sets {
		if v := ask(given{z, s.Owner}); !apart(z, v) {
			t.Errorf("%q shares memory", s.Owner)
		}
	}
	if v := ask(given{z, z.Origin}); v.Spot.Kind != api.Exact || !apart(z, v) {
		t.Error("the origin shares memory")
	}
}

// What a caller does to what was handed in, or back, tells in no answer.
func TestSpoilt(t *testing.T) {
	z := example()
	for _, s := range []string{"NS.a.", "W.a.", "p.q.W.a.", "r.A.", "x.B.a.", "a."} {
		n := of(s)
		want := ask(given{z, n})
		got := ask(given{z, n})
		for _, l := range []api.Name{got.Spot.Node, got.Spot.Closest, got.Closest} {
			for i := range l[:cap(l)] {
				l[:cap(l)][i] = "spoilt"
			}
		}
		if !slices.Equal(n, of(s)) || !reflect.DeepEqual(z, example()) || !reflect.DeepEqual(ask(given{z, n}), want) {
			t.Errorf("%s is spoilt by what was handed back", s)
		}
		got = ask(given{z, n})
		for i := range n {
			n[i] = "spoilt"
		}
		for i := range z.Sets {
			for j := range z.Sets[i].Owner {
				z.Sets[i].Owner[j] = "spoilt"
			}
		}
		if !reflect.DeepEqual(got, want) {
			t.Errorf("%s is spoilt by what was handed in", s)
		}
		z = example()
	}
}

// nil and empty lists are the same, in a zone and as a name.
func TestNilLists(t *testing.T) {
	for _, o := range []api.Name{nil, {}} {
		for _, l := range [][]api.Set{nil, {}} {
			for _, n := range []api.Name{nil, {}, of("a."), {""}} {
				refuses(t, api.Zone{Origin: o, Sets: l}, n, 263)
			}
		}
		z := api.Zone{Origin: o, Sets: []api.Set{set(o, api.NS, host(o)), set(o, api.SOA, api.Data{Names: []api.Name{o, nil}, Nums: make([]uint32, 5), Texts: []string{}, Raw: []byte{}}), set(of("*."), 99, api.Data{Raw: []byte{}})}}
		for _, n := range []api.Name{nil, {}} {
			finds(t, z, n, api.Spot{Kind: api.Exact})
			nears(t, z, n, nil)
		}
		finds(t, z, of("q."), api.Spot{Kind: api.Wild, Node: of("*.")})
		nears(t, z, of("q."), nil)
		refuses(t, z, api.Name{""}, api.ErrLabel)
	}
	refuses(t, example(), nil, api.ErrArg)
	refuses(t, example(), api.Name{}, api.ErrArg)
}

// P1: the same each time, also at once.
func TestSameEachTime(t *testing.T) {
	var all sync.WaitGroup
	for _, g := range lists() {
		want := ask(g)
		for range 3 {
			all.Go(func() {
				for range 20 {
					if got := ask(g); !reflect.DeepEqual(got, want) {
						t.Errorf("%s, not %s", brief(got), brief(want))
					}
				}
			})
		}
	}
	all.Wait()
}

// P1: the calls end whatever they are given, and tell nothing beside an error.
func TestCalm(t *testing.T) {
	labels := slices.Repeat(api.Name{""}, 60000)
	many := slices.Repeat([]api.Set{set(of("b.a."), api.NS)}, 60000)
	zones := []faulty{
		{api.Zone{Origin: labels}, api.ErrLabel}, {api.Zone{Origin: slices.Repeat(api.Name{"a"}, 60000)}, api.ErrName},
		{api.Zone{Origin: of("a."), Sets: many}, api.ErrMissing}, {api.Zone{Sets: []api.Set{{Owner: labels, Type: api.NS, Data: make([]api.Data, 2049)}}}, api.ErrLong}, {api.Zone{Sets: make([]api.Set, 5)}, api.ErrMissing},
		{api.Zone{Sets: []api.Set{{Type: 65535, Class: 65535, TTL: 4294967295, Data: make([]api.Data, 1)}}}, 261},
	}
	names := []api.Name{nil, {""}, labels, slices.Repeat(api.Name{"a"}, 60000), of("a."), of("q.b.a."), name255, name256}
	for _, f := range zones {
		for _, n := range names {
			refuses(t, f.z, n, f.e)
		}
	}
	refuses(t, example(), labels, api.ErrLabel)
	refuses(t, example(), slices.Repeat(api.Name{"a"}, 60000), api.ErrName)
	// The greatest zone that may be, asked for the deepest name.
	deep := slices.Repeat(api.Name{"a"}, 127)
	z := api.Zone{Sets: []api.Set{set(nil, api.NS, host(nil)), set(nil, api.SOA, api.Data{Names: []api.Name{nil, nil}, Nums: make([]uint32, 5)})}}
	for i := range 2046 {
		z.Sets = append(z.Sets, set(api.Name{fmt.Sprintf("b%04d", i)}, api.TXT, txt()))
	}
	finds(t, z, deep, api.Spot{})
	nears(t, z, deep, nil)
}

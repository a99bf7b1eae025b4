package master_test

import (
	"reflect"
	"slices"
	"testing"
	"unsafe"

	"nomenclator/api"
	"nomenclator/master"
	"nomenclator/rdata"
)

// room is a list's memory, its spare room too.
type room struct{ from, to uintptr }

func roomOf[T any](l []T) room {
	if cap(l) == 0 {
		return room{}
	}
	from := uintptr(unsafe.Pointer(unsafe.SliceData(l)))
	var one T
	return room{from, from + uintptr(cap(l))*unsafe.Sizeof(one)}
}

// roomsOf tells the memory of all lists of a record.
func roomsOf(r api.Record) []room {
	l := []room{roomOf(r.Owner), roomOf(r.Data.Names), roomOf(r.Data.Nums), roomOf(r.Data.Texts), roomOf(r.Data.Raw)}
	for _, n := range r.Data.Names {
		l = append(l, roomOf(n))
	}
	return l
}

// apart tells whether no two of these share memory.
func apart(l []room) bool {
	l = slices.DeleteFunc(l, func(r room) bool { return r.from == r.to })
	slices.SortFunc(l, func(a, b room) int {
		if a.from < b.from {
			return -1
		}
		return 1
	})
	for i := 1; i < len(l); i++ {
		if l[i].from < l[i-1].to {
			return false
		}
	}
	return true
}

const sharing = "$ORIGIN c\n@ 60 SOA @ @ 1 2 3 4 5\n NS @\n NS c.b.\n MX 1 x\n A 1.2.3.4\n TXT a \"b c\"\nx SRV 1 2 3 @\n CNAME @\n CAA 0 issue x\n TYPE99 \\# 2 0102\n@ A 1.2.3.4\n"

// No two lists of one answer share memory; nor those of an answer and what was handed in.
func TestNothingIsShared(t *testing.T) {
	origin := append(make(api.Name, 0, 8), "b")
	l, f := master.Parse(sharing+"$ORIGIN b.\n@ A 1.2.3.4\nx NS @", origin)
	m, _ := master.Parse("@ 60 NS @\n NS x", origin)
	if f != (api.Fault{}) || len(l) != 13 || len(m) != 2 {
		t.Fatalf("Parse = %v, %v; %v", l, f, m)
	}
	rooms := []room{roomOf(l), roomOf(m), roomOf(origin)}
	for _, r := range append(slices.Clone(l), m...) {
		rooms = append(rooms, roomsOf(r)...)
	}
	if !apart(rooms) {
		t.Error("lists share memory")
	}
	c := api.Carry{Origin: origin, Owner: append(make(api.Name, 0, 8), "o", "b"), HasOwner: true}
	e := entryOf(t, " 60 SOA @ @ 1 2 3 4 5")
	one, err := master.Record(e, c)
	two, _ := master.Record(e, c)
	if err != api.OK || !same(one, two) {
		t.Fatalf("Record = %v, %d; %v", one, err, two)
	}
	rooms = append(roomsOf(one), roomsOf(two)...)
	if !apart(append(rooms, roomOf(origin), roomOf(c.Owner), roomOf(e.Words))) {
		t.Error("a record's lists share memory")
	}
}

// What a caller does to what was returned leaves the other records, and what is returned next, alone.
func TestRecordsAreNew(t *testing.T) {
	origin := api.Name{"b"}
	want, _ := modelParse(sharing, origin)
	for i := range want {
		want[i].Owner = slices.Clone(want[i].Owner)
		want[i].Data = rdata.Copy(want[i].Data)
	}
	one, _ := master.Parse(sharing, origin)
	two, _ := master.Parse(sharing, origin)
	for i := range one {
		spoil(&one[i])
		if !sameAll(one[i+1:], want[i+1:]) {
			t.Errorf("record %d shares with those behind it", i)
		}
	}
	if !sameAll(two, want) {
		t.Errorf("records of one call are those of another: %s", brief(two))
	}
	if !reflect.DeepEqual(origin, api.Name{"b"}) {
		t.Errorf("the origin is %q now", origin)
	}
	reads(t, sharing, want...)
}

// spoil writes over all that a record has, the spare room too.
func spoil(r *api.Record) {
	for _, n := range append(r.Data.Names, r.Owner) {
		n = n[:cap(n)]
		for i := range n {
			n[i] = "spoilt"
		}
	}
	for i := range r.Data.Names {
		r.Data.Names[i] = api.Name{"spoilt"}
	}
	for i := range r.Data.Nums {
		r.Data.Nums[i] = 77
	}
	for i := range r.Data.Texts {
		r.Data.Texts[i] = "spoilt"
	}
	for i := range r.Data.Raw {
		r.Data.Raw[i] = 77
	}
	r.Owner = append(r.Owner, "more")
}

// What was handed in is not changed, its spare room neither, and what a caller does to it later leaves the answer alone.
func TestWhatIsHandedIn(t *testing.T) {
	names := api.Name{"o", "b", "spare", "room"}
	words := entryOf(t, "a 60 SOA x @ 1 2 3 4 5 spare room").Words
	kept, keptWords := slices.Clone(names), slices.Clone(words)
	e := api.Entry{Words: words[:len(words)-2]}
	c := api.Carry{Origin: names[:2], Owner: names[1:2], HasOwner: true, Class: 3, HasClass: true}
	one, err := master.Record(e, c)
	e.Blank, e.Words = true, words[1:len(words)-2]
	two, wrong := master.Record(e, c)
	l, f := master.Parse("@ 60 NS @\n NS x", names[:2])
	if err != api.OK || wrong != api.OK || f != (api.Fault{}) {
		t.Fatalf("%d, %d, %v", err, wrong, f)
	}
	if !slices.Equal(names, kept) || !slices.Equal(words, keptWords) {
		t.Errorf("what was handed in is %v, %v now", names, words)
	}
	for i := range names {
		names[i] = "spoilt"
	}
	for i := range words {
		words[i] = api.Term{Text: "spoilt", Quoted: true}
	}
	data := api.Data{Names: []api.Name{{"x", "o", "b"}, {"o", "b"}}, Nums: []uint32{1, 2, 3, 4, 5}}
	if !same(one, api.Record{Owner: api.Name{"a", "o", "b"}, Type: api.SOA, Class: 3, TTL: 60, Data: data}) {
		t.Errorf("the record is %v now", one)
	}
	if !same(two, api.Record{Owner: api.Name{"b"}, Type: api.SOA, Class: 3, TTL: 60, Data: data}) {
		t.Errorf("the record is %v now", two)
	}
	if !slices.Equal(l[0].Owner, api.Name{"o", "b"}) || !slices.Equal(l[1].Owner, api.Name{"o", "b"}) || !slices.Equal(l[1].Data.Names[0], api.Name{"x", "o", "b"}) {
		t.Errorf("the records are %v now", l)
	}
}

// nil and empty are the same.
func TestNilLists(t *testing.T) {
	for _, root := range []api.Name{nil, {}} {
		l, f := master.Parse("@ 60 A 1.2.3.4\n NS @", root)
		if f != (api.Fault{}) || len(l) != 2 || len(l[0].Owner) != 0 || len(l[1].Owner) != 0 || len(l[1].Data.Names[0]) != 0 {
			t.Errorf("Parse = %v, %v", l, f)
		}
		if l, f := master.Parse("", root); len(l) != 0 || f != (api.Fault{}) {
			t.Errorf("Parse of nothing = %v, %v", l, f)
		}
		e := entryOf(t, " 60 A 1.2.3.4")
		if r, err := master.Record(e, api.Carry{Origin: root, Owner: root, HasOwner: true}); err != api.OK || len(r.Owner) != 0 {
			t.Errorf("Record = %v, %d", r, err)
		}
	}
	for _, words := range [][]api.Term{nil, {}} {
		if r, err := master.Record(api.Entry{Words: words}, api.Carry{}); err != api.ErrEntry || !reflect.DeepEqual(r, api.Record{}) {
			t.Errorf("Record of no words = %v, %d", r, err)
		}
	}
}

// P1: the same each time.
func TestSameEachTime(t *testing.T) {
	for range 20 {
		reads(t, "$TTL 5\n$ORIGIN c\n@ A 1.2.3.4", at("c.b.", 5, 4))
		refuses(t, "a A 1.2.3.4", api.ErrMissing, 1) // nothing is carried on from call to call
		refuses(t, " 5 A 1.2.3.4", api.ErrMissing, 1)
		reads(t, "a 5 A 1.2.3.4", at("a.b.", 5, 4))
	}
}

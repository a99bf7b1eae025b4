package fit_test

import (
	"fmt"
	"math"
	"math/rand"
	"reflect"
	"slices"
	"strings"
	"testing"

	"nomenclator/api"
	"nomenclator/fit"
	"nomenclator/message"
)

// of tells the name of a text without escapes: its labels have a dot behind each.
func of(s string) api.Name {
	if s == "." {
		return nil
	}
	return strings.Split(strings.TrimSuffix(s, "."), ".")
}

func raw(b ...byte) api.Data { return api.Data{Raw: b} }

// room tells data of so many bytes, of a type that has Raw.
func room(size int) api.Data { return api.Data{Raw: make([]byte, size)} }

func host(s string) api.Data { return api.Data{Names: []api.Name{of(s)}} }

// rec tells a record of the class IN and the TTL 60.
func rec(owner string, t api.Type, d api.Data) api.Record {
	return api.Record{Owner: of(owner), Type: t, Class: api.IN, TTL: 60, Data: d}
}

// addr tells an address of an owner.
func addr(owner string, last byte) api.Record { return rec(owner, api.A, raw(1, 2, 3, last)) }

// opt tells a record of the type OPT and the root.
func opt(size api.Class, b ...byte) api.Record {
	return api.Record{Type: api.OPT, Class: size, Data: raw(b...)}
}

func ask(s string) api.Question {
	return api.Question{Name: of(s), Type: api.A, Class: api.IN}
}

func list(l ...api.Record) []api.Record { return l }

// beside tells a message with these additional records.
func beside(l ...api.Record) api.Message { return api.Message{Additional: l} }

func lists(m *api.Message) []*[]api.Record {
	return []*[]api.Record{&m.Answer, &m.Authority, &m.Additional}
}

// kind tells an owner, folded, a type and a class as a text.
func kind(r api.Record) string {
	s := fmt.Sprint(r.Type, " ", r.Class)
	for _, l := range r.Owner {
		b := []byte(l)
		for i, c := range b {
			if 'A' <= c && c <= 'Z' {
				b[i] = c + 32
			}
		}
		s += fmt.Sprintf(" %q", b)
	}
	return s
}

// numbers tells of each record of each list the number of its set, by the chapter's words; of the saying one -1. And how many sets there are.
func numbers(m api.Message) (l [3][]int, sets int) {
	said := false
	for i, records := range lists(&m) {
		last := ""
		for _, r := range *records {
			if i == 2 && r.Type == 41 && !said {
				said = true
				l[i] = append(l[i], -1)
				continue
			}
			if k := kind(r); k != last {
				last = k
				sets++
			}
			l[i] = append(l[i], sets-1)
		}
	}
	return l, sets
}

// cutTo tells a message that is cut to so many sets, by the chapter's words: record by record is taken or left.
func cutTo(m api.Message, sets int) api.Message {
	number, _ := numbers(m)
	for i, l := range lists(&m) {
		var left []api.Record
		for j, r := range *l {
			if number[i][j] < sets {
				left = append(left, r)
			} else if i < 2 {
				m.TC = true
			}
		}
		*l = left
	}
	return m
}

// tooMany is how many bytes a message has that may not be written, because it has too many.
const tooMany = math.MaxInt

// sizes tells how many bytes a message has that is cut to 0 sets, to 1, and so on up to all.
func sizes(m api.Message) []int {
	_, sets := numbers(m)
	var l []int
	for n := range sets + 1 {
		b, e := message.Bytes(cutTo(m, n))
		if e != api.OK {
			l = append(l, tooMany)
		} else {
			l = append(l, len(b))
		}
	}
	return l
}

// setsFor tells how many sets fit at most, by those sizes; -1, if not even none does.
func setsFor(sizes []int, size int) int {
	most := -1
	for n, s := range sizes {
		if s <= size && s != tooMany {
			most = n
		}
	}
	return most
}

// cuts tells that Cut and Bytes answer what is wanted.
func cuts(t *testing.T, title string, m api.Message, size int, want api.Message) {
	t.Helper()
	if got, e := fit.Cut(m, size); e != api.OK || !alike(got, want) {
		t.Errorf("%s: Cut to %d = %s, %d, not %s", title, size, brief(got), e, brief(want))
	}
	b, e := message.Bytes(want)
	if e != api.OK || len(b) > size {
		t.Fatalf("%s: what is wanted for %d has %d bytes, %d", title, size, len(b), e)
	}
	if got, e := fit.Bytes(m, size); e != api.OK || !slices.Equal(got, b) {
		t.Errorf("%s: Bytes of %d = %d of them, %d, not %d", title, size, len(got), e, len(b))
	}
}

// refuses tells that Cut and Bytes answer an error, and nothing besides.
func refuses(t *testing.T, title string, m api.Message, size int, want api.Errno) {
	t.Helper()
	if got, e := fit.Cut(m, size); e != want || !reflect.DeepEqual(got, api.Message{}) {
		t.Errorf("%s: Cut to %d = %s, %d, not %d", title, size, brief(got), e, want)
	}
	if got, e := fit.Bytes(m, size); e != want || len(got) != 0 {
		t.Errorf("%s: Bytes of %d = %d of them, %d, not %d", title, size, len(got), e, want)
	}
}

// edges are the sizes that the document names, whatever the message is.
var edges = []int{math.MinInt, -65536, -12, -1, 0, 1, 11, 12, 13, 511, 512, 65534, 65535, 65536, 65537, 131072, math.MaxInt}

// holds tells that all calls answer of a message that may be written what the chapter's words say: at the edges, and where one set more fits.
func holds(t *testing.T, title string, m api.Message) {
	t.Helper()
	if e := message.Check(m); e != api.OK {
		t.Fatalf("%s: Check = %d", title, e)
	}
	number, sets := numbers(m)
	want := make([]int, sets)
	for _, n := range slices.Concat(number[:]...) {
		if n >= 0 {
			want[n]++
		}
	}
	if got := fit.Sets(m); !slices.Equal(got, want) {
		t.Errorf("%s: Sets = %v, not %v", title, got, want)
	}
	bytes := sizes(m)
	at := slices.Clone(edges)
	for _, s := range bytes {
		if s != tooMany {
			at = append(at, s-1, s, s+1)
		}
	}
	for _, size := range at {
		if n := setsFor(bytes, size); n >= 0 {
			cuts(t, title, m, size, cutTo(m, n))
		} else {
			refuses(t, title, m, size, api.ErrLong)
		}
	}
}

// someName tells a name of few labels that come again and again.
func someName(r *rand.Rand) api.Name {
	labels := []string{"a", "A", "b", "www", "a.b", "\x00", strings.Repeat("x", 60)}
	var n api.Name
	for range r.Intn(4) {
		n = append(n, labels[r.Intn(len(labels)-r.Intn(2))])
	}
	return n
}

// someRecord tells a record of few kinds; its owner is often the root or of one label.
func someRecord(r *rand.Rand) api.Record {
	x := api.Record{Owner: someName(r), Class: api.Class(1 + r.Intn(5)/4), TTL: uint32(r.Intn(3))}
	switch x.Type = []api.Type{api.A, api.NS, api.SOA, api.MX, api.SRV, api.TXT, api.OPT, 99}[r.Intn(8)]; x.Type {
	case api.A:
		x.Data = raw(1, 2, 3, byte(r.Intn(256)))
	case api.NS:
		x.Data = api.Data{Names: []api.Name{someName(r)}}
	case api.SOA:
		x.Data = api.Data{Names: []api.Name{someName(r), someName(r)}, Nums: make([]uint32, 5)}
	case api.MX:
		x.Data = api.Data{Names: []api.Name{someName(r)}, Nums: []uint32{7}}
	case api.SRV:
		x.Data = api.Data{Names: []api.Name{someName(r)}, Nums: []uint32{1, 2, 3}}
	case api.TXT:
		x.Data = api.Data{Texts: []string{strings.Repeat("t", r.Intn(100))}}
	default:
		x.Data = room(r.Intn(30))
	}
	return x
}

// alter tells a record that belongs to the same set as another one, but for one thing at times.
func alter(r *rand.Rand, x api.Record) api.Record {
	x.TTL++
	switch r.Intn(8) {
	case 0:
		x.Class++
	case 1:
		x.Owner = someName(r)
	case 2, 3:
		x.Owner = slices.Clone(x.Owner)
		for i, l := range x.Owner {
			x.Owner[i] = strings.ToUpper(l)
		}
	}
	return x
}

// some tells a message that may be written, of at most so many records in each list; many of them belong together.
func some(r *rand.Rand, records int) api.Message {
	flip := func() bool { return r.Intn(2) == 0 }
	m := api.Message{ID: uint16(r.Intn(65536)), Response: flip(), Opcode: r.Intn(16), AA: flip(), TC: r.Intn(4) == 0, RD: flip(), RA: flip(), AD: flip(), CD: flip(), Rcode: r.Intn(16)}
	for range r.Intn(3) {
		m.Questions = append(m.Questions, api.Question{Name: someName(r), Type: api.Type(r.Intn(65536)), Class: api.Class(r.Intn(65536))})
	}
	x := someRecord(r)
	for _, l := range lists(&m) {
		for range r.Intn(records + 1) {
			if x = alter(r, x); r.Intn(3) == 0 {
				x = someRecord(r)
			}
			*l = append(*l, x)
		}
	}
	if n := len(m.Additional); n > 0 && flip() {
		at := r.Intn(n + 1)
		m.Additional = slices.Insert(m.Additional, at, api.Record{Owner: someName(r), Type: api.OPT, Class: 1232, Data: room(r.Intn(20))})
	}
	return m
}

// alike tells whether two values are the same through and through; nil and empty lists are.
func alike(a, b any) bool { return equal(reflect.ValueOf(a), reflect.ValueOf(b)) }

func equal(a, b reflect.Value) bool {
	switch a.Kind() {
	case reflect.Slice:
		if a.Len() != b.Len() {
			return false
		}
		if a.Type().Elem().Kind() == reflect.Uint8 {
			return slices.Equal(a.Bytes(), b.Bytes())
		}
		for i := range a.Len() {
			if !equal(a.Index(i), b.Index(i)) {
				return false
			}
		}
		return true
	case reflect.Struct:
		for i := range a.NumField() {
			if !equal(a.Field(i), b.Field(i)) {
				return false
			}
		}
		return true
	}
	return a.Interface() == b.Interface()
}

// brief tells a message as a short text: TC, and which records it has.
func brief(m api.Message) string {
	s := fmt.Sprint("TC ", m.TC, ", ", len(m.Questions), " questions")
	for _, l := range lists(&m) {
		s += fmt.Sprint("; ", len(*l), ":")
		for _, r := range (*l)[:min(8, len(*l))] {
			s += fmt.Sprintf(" (%q %d %d, %d)", r.Owner, r.Type, r.Class, len(r.Data.Raw))
		}
	}
	return s
}

// The model holds by itself, at what is plain.
func TestTheModel(t *testing.T) {
	m := api.Message{Answer: list(addr("a.", 1), addr("A.", 2), addr("b.", 3)), Authority: list(addr("b.", 4)), Additional: list(addr("b.", 5), opt(1), addr("b.", 6), opt(1))}
	number, sets := numbers(m)
	if want := [3][]int{{0, 0, 1}, {2}, {3, -1, 3, 4}}; sets != 5 || !alike(number[:], want[:]) {
		t.Errorf("numbers = %v, %d", number, sets)
	}
	if c := cutTo(m, 3); c.TC || len(c.Answer) != 3 || len(c.Authority) != 1 || len(c.Additional) != 1 || c.Additional[0].Type != api.OPT {
		t.Errorf("cutTo(3) = %s", brief(c))
	}
	if c := cutTo(m, 1); !c.TC || len(c.Answer) != 2 || len(c.Authority) != 0 || len(c.Additional) != 1 {
		t.Errorf("cutTo(1) = %s", brief(c))
	}
	if n := setsFor([]int{12, 20, 30}, 29); n != 1 {
		t.Errorf("setsFor = %d", n)
	}
}

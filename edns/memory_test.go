package edns_test

import (
	"fmt"
	"math"
	"math/rand"
	"reflect"
	"slices"
	"strings"
	"testing"

	"nomenclator/api"
	"nomenclator/edns"
)

// Rule 4: an answer is new memory.

// span is a piece of memory: what a list reaches, its spare room too.
type span struct {
	from, to uintptr
	path     string
}

// spans tells what all lists of a value reach.
func spans(path string, v reflect.Value) []span {
	var l []span
	switch v.Kind() {
	case reflect.Struct:
		for i := range v.NumField() {
			l = append(l, spans(path+"."+v.Type().Field(i).Name, v.Field(i))...)
		}
	case reflect.Slice:
		if size := uintptr(v.Cap()) * v.Type().Elem().Size(); size > 0 {
			l = append(l, span{uintptr(v.UnsafePointer()), uintptr(v.UnsafePointer()) + size, path})
		}
		if v.Type().Elem().Kind() == reflect.Uint8 {
			break
		}
		for i := range v.Len() {
			l = append(l, spans(fmt.Sprint(path, i), v.Index(i))...)
		}
	}
	return l
}

// apart tells that no two lists of some values share memory.
func apart(t *testing.T, title string, values ...any) {
	t.Helper()
	var l []span
	for i, v := range values {
		l = append(l, spans(fmt.Sprint(i), reflect.ValueOf(v))...)
	}
	slices.SortFunc(l, func(a, b span) int { return int(int64(a.from) - int64(b.from)) })
	for i := range len(l) - 1 {
		if l[i].to > l[i+1].from {
			t.Errorf("%s: %s and %s share memory", title, l[i].path, l[i+1].path)
		}
	}
}

// spare tells the texts in the spare room of a value's lists.
func spare(v reflect.Value) []string {
	var l []string
	switch v.Kind() {
	case reflect.Struct:
		for i := range v.NumField() {
			l = append(l, spare(v.Field(i))...)
		}
	case reflect.Slice:
		for i := range v.Len() {
			l = append(l, spare(v.Index(i))...)
		}
		for i := v.Len(); i < v.Cap(); i++ {
			l = append(l, fmt.Sprint(v.Slice(0, v.Cap()).Index(i)))
		}
	}
	return l
}

// room lays a value's lists into greater ones, in which something stands behind them.
func room(v reflect.Value) {
	switch v.Kind() {
	case reflect.Struct:
		for i := range v.NumField() {
			room(v.Field(i))
		}
	case reflect.Slice:
		l := reflect.MakeSlice(v.Type(), v.Len()+2, v.Len()+2)
		reflect.Copy(l, v)
		for i := range v.Len() {
			room(l.Index(i))
		}
		for i := range 2 {
			scrawl(l.Index(v.Len() + i))
		}
		v.Set(l.Slice(0, v.Len()))
	}
}

// scrawl writes something over a value.
func scrawl(v reflect.Value) {
	switch v.Kind() {
	case reflect.Struct:
		for i := range v.NumField() {
			scrawl(v.Field(i))
		}
	case reflect.Slice:
		v.Set(reflect.MakeSlice(v.Type(), 1, 1))
		scrawl(v.Index(0))
	case reflect.String:
		v.SetString("scrawl")
	case reflect.Bool:
		v.SetBool(!v.Bool())
	case reflect.Int:
		v.SetInt(v.Int() + 77)
	default:
		v.SetUint(v.Uint() + 77)
	}
}

// scrawlAll writes over all that a value's lists reach, their spare room too.
func scrawlAll(v reflect.Value) {
	switch v.Kind() {
	case reflect.Struct:
		for i := range v.NumField() {
			scrawlAll(v.Field(i))
		}
	case reflect.Slice:
		l := v.Slice(0, v.Cap())
		for i := range l.Len() {
			scrawlAll(l.Index(i))
			scrawl(l.Index(i))
		}
	}
}

// whole tells a value as a text, its lists up to their capacity.
func whole(v reflect.Value) string {
	switch v.Kind() {
	case reflect.Struct:
		s := "{"
		for i := range v.NumField() {
			s += whole(v.Field(i)) + ","
		}
		return s + "}"
	case reflect.Slice:
		s := fmt.Sprint(v.Len(), "[")
		for i := range v.Cap() {
			s += whole(v.Slice(0, v.Cap()).Index(i)) + ","
		}
		return s + "]"
	}
	return fmt.Sprintf("%q", fmt.Sprint(v))
}

// lent lays a value's lists into greater ones, in memory of their own.
func lent[T any](v T) T {
	room(reflect.ValueOf(&v).Elem())
	return v
}

// handed is what is handed in: a message, something to say, a record.
type handed struct {
	M api.Message
	E api.Edns
	R api.Record
}

// answers is all that the calls tell of what is handed in.
type answers struct {
	Record  api.Record
	Read    api.Edns
	Of      api.Edns
	With    api.Message
	Without api.Message
	There   bool
	Size    int
	Errs    []api.Errno
}

func ask(h handed) answers {
	a := answers{Errs: make([]api.Errno, 5)}
	a.Record, a.Errs[0] = edns.Record(h.E)
	a.Read, a.Errs[1] = edns.Read(h.R)
	a.Of, a.There, a.Errs[2] = edns.Of(h.M)
	a.With, a.Errs[3] = edns.With(h.M, h.E)
	a.Without = edns.Without(h.M)
	a.Size, a.Errs[4] = edns.Size(h.M, 1232)
	return a
}

// samples are what is handed in, of all kinds.
func samples() []handed {
	r := rand.New(rand.NewSource(114))
	a, b := other("a"), other("b")
	e := api.Edns{Size: 1000, High: 1, Version: 2, DO: true, Options: []api.Option{{Code: 1, Data: []byte{1, 2, 3}}, {Code: 2}, {Code: 3, Data: []byte{4}}}}
	x := opt(1000, 0x01028000, 0, 1, 0, 3, 1, 2, 3, 0, 2, 0, 0)
	strange := api.Record{Owner: api.Name{"A", ""}, Type: api.OPT, TTL: 1, Data: api.Data{Names: []api.Name{{"x"}, nil}, Nums: []uint32{1}, Texts: []string{"t"}, Raw: []byte{9}}}
	full := api.Message{ID: 1, Questions: []api.Question{{Name: api.Name{"q", "a"}}}, Answer: []api.Record{a, x, strange}, Authority: []api.Record{b, x}}
	l := []handed{{}, {E: e, R: x}, {M: full, E: e, R: strange}, {M: api.Message{Opcode: math.MinInt, Rcode: math.MaxInt}, E: api.Edns{Size: math.MinInt, High: math.MaxInt}, R: opt(0, math.MaxUint32)}}
	for _, list := range [][]api.Record{{a, b}, {x}, {a, x, b}, {x, a, b}, {a, b, x}, {x, x}, {strange}, {strange, a, x, b, x}, {{}}} {
		m := full
		m.Additional = list
		l = append(l, handed{M: m, E: e, R: list[0]})
		m.Answer, m.Authority = nil, nil
		l = append(l, handed{M: m, E: api.Edns{Size: 7}, R: x}, handed{M: m, E: api.Edns{Size: -7}, R: x})
	}
	for range 50 {
		l = append(l, handed{someMessage(r), someEdns(r), someRecord(r)})
	}
	for i := range l {
		l[i] = lent(l[i])
	}
	return l
}

func TestWhatIsHandedInStaysAsItWas(t *testing.T) {
	for i, h := range samples() {
		was := whole(reflect.ValueOf(h))
		a := ask(h)
		if whole(reflect.ValueOf(h)) != was {
			t.Errorf("%d: what was handed in is changed", i)
		}
		apart(t, fmt.Sprint("sample ", i), a, ask(h), h)
		if strings.Contains(fmt.Sprint(spare(reflect.ValueOf(a))), "scrawl") {
			t.Errorf("%d: spare room is handed out", i)
		}
	}
}

// What was told of records that are gone is gone from the spare room, too.
func TestNothingIsLeftInTheSpareRoom(t *testing.T) {
	gone := opt(777, 0)
	gone.Owner = api.Name{"gone"}
	m := edns.Without(with(gone, other("a"), gone, other("b"), gone))
	if len(m.Additional) != 2 || strings.Contains(fmt.Sprint(m.Additional[:cap(m.Additional)]), "gone") {
		t.Errorf("Without = %v", m.Additional[:cap(m.Additional)])
	}
}

func TestAnswersHangOnNothing(t *testing.T) {
	for i := range samples() {
		h, again := samples()[i], samples()[i]
		want := ask(again)
		a, b := ask(h), ask(h)
		scrawlAll(reflect.ValueOf(&h).Elem())
		if !alike(a, want) || !alike(b, want) {
			t.Errorf("%d: an answer hangs on what was handed in", i)
		}
		scrawlAll(reflect.ValueOf(&a).Elem())
		if !alike(b, want) || !alike(ask(again), want) {
			t.Errorf("%d: two answers hang on each other", i)
		}
	}
}

// A caller may write behind what was told, or handed in.
func TestAppendingToAnswers(t *testing.T) {
	l := []api.Record{other("a"), other("b"), other("c")}
	m := with(l[:1]...)
	one, _ := edns.With(m, api.Edns{Size: 1})
	two, _ := edns.With(m, api.Edns{Size: 2})
	if l[1].Owner[0] != "b" || one.Additional[1].Class != 1 || two.Additional[1].Class != 2 {
		t.Errorf("With writes behind what was handed in: %v, %v, %v", l, one, two)
	}
	bare, whole := edns.Without(one), edns.Without(one)
	_ = append(bare.Additional, other("z"))
	if one.Additional[1].Class != 1 || !alike(whole, m) {
		t.Errorf("Without tells what hangs together: %v, %v", one, whole)
	}
	e, _ := edns.Read(opt(0, 0, 0, 1, 0, 1, 7, 0, 2, 0, 1, 8))
	_ = append(e.Options[0].Data, 99, 99, 99, 99, 99)
	if !slices.Equal(e.Options[1].Data, []byte{8}) || e.Options[1].Code != 2 {
		t.Errorf("options hang together: %v", e)
	}
}

// P1: calm, and always the same.

func TestCalm(t *testing.T) {
	for i, h := range samples() {
		if !alike(ask(h), ask(h)) {
			t.Errorf("%d: answers change", i)
		}
	}
}

func FuzzRead(f *testing.F) {
	for _, c := range edgesOfRaw {
		f.Add(c.b, uint16(1232), uint32(32768), 512)
	}
	f.Fuzz(func(t *testing.T, b []byte, size uint16, ttl uint32, own int) {
		x := opt(api.Class(size), ttl, b...)
		want, ok := said(x)
		m := with(other("a"), x)
		if ok {
			says(t, want, x)
			tells(t, "a message", m, want, true, api.OK)
		} else {
			saysNothing(t, "a record", x)
			tells(t, "a message", m, api.Edns{}, false, api.ErrBytes)
		}
		n, err := edns.Size(m, own)
		if fit := own >= 512 && own <= 65535; fit != (err == api.OK) || fit && (n < 512 || n > own) || !fit && n != 0 {
			t.Errorf("Size(%d) = %d, %d", own, n, err)
		}
	})
}

package fit_test

import (
	"fmt"
	"math"
	"math/rand"
	"reflect"
	"slices"
	"strings"
	"testing"

	"nomenclator/api"
	"nomenclator/fit"
	"nomenclator/message"
)

// Rule 4: an answer is new memory.

// span is a piece of memory: what a list reaches, its spare room too.
type span struct {
	from, to uintptr
	path     string
}

// spans tells what all lists of a value reach.
func spans(path string, v reflect.Value) []span {
	var l []span
	switch v.Kind() {
	case reflect.Struct:
		for i := range v.NumField() {
			l = append(l, spans(path+"."+v.Type().Field(i).Name, v.Field(i))...)
		}
	case reflect.Slice:
		if size := uintptr(v.Cap()) * v.Type().Elem().Size(); size > 0 {
			l = append(l, span{uintptr(v.UnsafePointer()), uintptr(v.UnsafePointer()) + size, path})
		}
		if v.Type().Elem().Kind() == reflect.Uint8 {
			break
		}
		for i := range v.Len() {
			l = append(l, spans(fmt.Sprint(path, i), v.Index(i))...)
		}
	}
	return l
}

// apart tells that no two lists of some values share memory.
func apart(t *testing.T, title string, values ...any) {
	t.Helper()
	var l []span
	for i, v := range values {
		l = append(l, spans(fmt.Sprint(i), reflect.ValueOf(v))...)
	}
	slices.SortFunc(l, func(a, b span) int { return int(int64(a.from) - int64(b.from)) })
	for i := range len(l) - 1 {
		if l[i].to > l[i+1].from {
			t.Errorf("%s: %s and %s share memory", title, l[i].path, l[i+1].path)
		}
	}
}

// lend lays a value's lists into greater ones, in which something stands behind them.
func lend(v reflect.Value) {
	switch v.Kind() {
	case reflect.Struct:
		for i := range v.NumField() {
			lend(v.Field(i))
		}
	case reflect.Slice:
		l := reflect.MakeSlice(v.Type(), v.Len()+2, v.Len()+2)
		reflect.Copy(l, v)
		for i := range v.Len() {
			lend(l.Index(i))
		}
		for i := range 2 {
			scrawl(l.Index(v.Len() + i))
		}
		v.Set(l.Slice(0, v.Len()))
	}
}

// scrawl writes something over a value.
func scrawl(v reflect.Value) {
	switch v.Kind() {
	case reflect.Struct:
		for i := range v.NumField() {
			scrawl(v.Field(i))
		}
	case reflect.Slice:
		v.Set(reflect.MakeSlice(v.Type(), 1, 1))
		scrawl(v.Index(0))
	case reflect.String:
		v.SetString("scrawl")
	case reflect.Bool:
		v.SetBool(!v.Bool())
	case reflect.Int:
		v.SetInt(v.Int() + 77)
	default:
		v.SetUint(v.Uint() + 77)
	}
}

// scrawlAll writes over all that a value's lists reach, their spare room too.
func scrawlAll(v reflect.Value) {
	switch v.Kind() {
	case reflect.Struct:
		for i := range v.NumField() {
			scrawlAll(v.Field(i))
		}
	case reflect.Slice:
		l := v.Slice(0, v.Cap())
		for i := range l.Len() {
			scrawlAll(l.Index(i))
			scrawl(l.Index(i))
		}
	}
}

// whole tells a value as a text, its lists up to their capacity.
func whole(v reflect.Value) string {
	switch v.Kind() {
	case reflect.Struct:
		s := "{"
		for i := range v.NumField() {
			s += whole(v.Field(i)) + ","
		}
		return s + "}"
	case reflect.Slice:
		s := fmt.Sprint(v.Len(), "[")
		for i := range v.Cap() {
			s += whole(v.Slice(0, v.Cap()).Index(i)) + ","
		}
		return s + "]"
	}
	return fmt.Sprintf("%q", fmt.Sprint(v))
}

// answers is all that the calls tell of a message.
type answers struct {
	Sets  []int
	Cut   api.Message
	Bytes []byte
	Errs  []api.Errno
}

func askAll(m api.Message, size int) answers {
	a := answers{Sets: fit.Sets(m), Errs: make([]api.Errno, 2)}
	a.Cut, a.Errs[0] = fit.Cut(m, size)
	a.Bytes, a.Errs[1] = fit.Bytes(m, size)
	return a
}

// sample is what is handed in: a message in lists with spare room, and a size.
type sample struct {
	m    api.Message
	size int
}

func samples() []sample {
	r := rand.New(rand.NewSource(127))
	strange := api.Record{Owner: api.Name{"A", ""}, Type: api.OPT, TTL: 1, Data: api.Data{Names: []api.Name{{"x"}, nil}, Nums: []uint32{1}, Texts: []string{"t"}, Raw: []byte{9}}}
	l := []sample{{}, {size: 12}, {api.Message{Opcode: math.MinInt}, 100}, {beside(strange, strange), 100}, {api.Message{Answer: make([]api.Record, 513)}, 100}, {api.Message{Questions: make([]api.Question, 17)}, math.MaxInt}}
	m := example()
	for _, at := range []int{0, 1} {
		m.Additional = slices.Insert(list(addr("d.", 3)), at, opt(1232, 1, 2))
		for _, size := range append(sizes(m), 11, 70, 80, 65536) {
			l = append(l, sample{m, size})
		}
	}
	for range 60 {
		m := some(r, 4)
		bytes := sizes(m)
		l = append(l, sample{m, bytes[r.Intn(len(bytes))]}, sample{m, 65535})
	}
	for i := range l {
		l[i].m = message.Copy(l[i].m)
		lend(reflect.ValueOf(&l[i].m).Elem())
	}
	return l
}

func TestWhatIsHandedInStaysAsItWas(t *testing.T) {
	for i, s := range samples() {
		was := whole(reflect.ValueOf(s.m))
		a := askAll(s.m, s.size)
		if whole(reflect.ValueOf(s.m)) != was {
			t.Errorf("%d: what was handed in is changed", i)
		}
		apart(t, fmt.Sprint("sample ", i), a, askAll(s.m, s.size), s.m)
		if strings.Contains(whole(reflect.ValueOf(a)), "scrawl") {
			t.Errorf("%d: spare room is handed out", i)
		}
		if b := askAll(message.Copy(s.m), s.size); !alike(a, b) {
			t.Errorf("%d: the spare room is looked at", i)
		}
	}
}

func TestAnswersHangOnNothing(t *testing.T) {
	others := samples()
	for i, given := range samples() {
		other := others[i]
		want := askAll(other.m, other.size)
		a, b := askAll(given.m, given.size), askAll(given.m, given.size)
		scrawlAll(reflect.ValueOf(&given.m).Elem())
		if !alike(a, want) || !alike(b, want) {
			t.Errorf("%d: an answer hangs on what was handed in", i)
		}
		scrawlAll(reflect.ValueOf(&a).Elem())
		if !alike(b, want) || !alike(askAll(other.m, other.size), want) {
			t.Errorf("%d: two answers hang on each other", i)
		}
	}
}

// Records that are left out are gone from the spare room, too.
func TestNothingIsLeftInTheSpareRoom(t *testing.T) {
	gone := []api.Record{addr("gone.", 1), addr("gone.", 2)}
	l := func(r api.Record) []api.Record { return slices.Concat(list(r), gone) }
	for title, m := range map[string]api.Message{
		"the answer":                    {Answer: l(addr("a.", 1)), Authority: gone, Additional: gone},
		"the authority":                 {Answer: list(addr("a.", 1)), Authority: l(addr("b.", 1)), Additional: gone},
		"additional":                    {Answer: list(addr("a.", 1)), Additional: l(addr("b.", 1))},
		"the saying record":             {Additional: l(opt(1))},
		"the saying record behind":      {Additional: slices.Concat(gone, list(opt(1)))},
		"the saying record in between":  {Additional: slices.Insert(slices.Clone(gone), 1, opt(1))},
		"the saying record behind some": {Additional: slices.Concat(list(addr("a.", 1)), gone, list(opt(1)))},
	} {
		bytes := sizes(m)
		for n, size := range bytes {
			c, e := fit.Cut(m, size)
			told := strings.Contains(fmt.Sprint(c), "gone")
			if left := strings.Contains(whole(reflect.ValueOf(c)), "gone"); e != api.OK || left != told {
				t.Errorf("%s: cut to %d sets something is left", title, n)
			}
		}
	}
}

// A caller may write behind what was told.
func TestAppendingToAnswers(t *testing.T) {
	m := example()
	m.Additional = append(m.Additional, opt(1))
	for _, size := range sizes(m) {
		want, _ := fit.Cut(m, size)
		c, _ := fit.Cut(m, size)
		_, _, _ = append(c.Answer, addr("z.", 9)), append(c.Authority, addr("z.", 9)), append(c.Additional, addr("z.", 9))
		if !alike(c, want) || !alike(m.Answer, example().Answer) || !alike(m.Authority, example().Authority) || m.Additional[1].Type != api.OPT {
			t.Errorf("lists hang together: %s, %s", brief(c), brief(m))
		}
	}
}

// P1: calm at all sizes, and always the same.
func TestCalm(t *testing.T) {
	for i, s := range samples() {
		for _, size := range append([]int{s.size}, edges...) {
			if a := askAll(s.m, size); !alike(a, askAll(s.m, size)) {
				t.Errorf("%d: answers to %d change", i, size)
			} else if a.Errs[0] != a.Errs[1] || a.Errs[0] != api.OK && (!reflect.DeepEqual(a.Cut, api.Message{}) || len(a.Bytes) != 0) {
				t.Errorf("%d: beside an error there is something: %v", i, a)
			}
		}
	}
}

package message_test

import (
	"fmt"
	"math"
	"math/rand"
	"reflect"
	"slices"
	"strings"
	"testing"
	"unsafe"

	"nomenclator/api"
	"nomenclator/message"
)

// full is a message with something in each field, data of no type among it: it may not be written.
func full() api.Message {
	d := func() api.Data {
		return api.Data{Names: []api.Name{{"A", "b"}, {"", strings.Repeat("Q", 300)}, nil}, Nums: []uint32{1, 1 << 31}, Texts: []string{"T", "", "u"}, Raw: []byte("RAW")}
	}
	l := func(owner string) []api.Record {
		return []api.Record{{Owner: of(owner), Type: 99, Class: 1, TTL: 60, Data: d()}, {Owner: of(owner), Type: api.ANY, Class: 7, TTL: 6, Data: d()}, {}}
	}
	return api.Message{ID: 7, Response: true, Opcode: -1, AA: true, TC: true, RD: true, RA: true, AD: true, CD: true, Rcode: 4095, Questions: []api.Question{{Name: of("a.b."), Type: 1, Class: 1}, {Name: api.Name{""}}, {}}, Answer: l("a.b."), Authority: l("b.c."), Additional: l("c.d.")}
}

// samples are messages of all kinds, such among them as may not be written.
func samples() []api.Message {
	r := rand.New(rand.NewSource(1005))
	l := []api.Message{
		{}, full(), {Opcode: math.MinInt, Rcode: math.MaxInt}, {Questions: make([]api.Question, 17)}, {Answer: make([]api.Record, 513)}, {Additional: make([]api.Record, 3)},
		{Questions: []api.Question{}, Answer: []api.Record{}, Authority: []api.Record{}, Additional: []api.Record{}},
		{Questions: []api.Question{{Name: api.Name{}}}, Answer: []api.Record{{Owner: api.Name{}, Data: api.Data{Names: []api.Name{}, Nums: []uint32{}, Texts: []string{}, Raw: []byte{}}}}},
		{Questions: []api.Question{ask("a.")}, Answer: []api.Record{rec("a.", api.SOA, soa("b.", "c."))}},
	}
	for range 10 {
		l = append(l, some(r, 3, 3))
	}
	return l
}

// P10.3: Copy.

func TestCopy(t *testing.T) {
	for _, m := range samples() {
		c := message.Copy(m)
		if !alike(c, m) || !message.Same(c, m) || !message.Same(m, c) {
			t.Errorf("Copy(%v) = %v", m, c)
		}
		if e, f := message.Check(m), message.Check(c); e != f {
			t.Errorf("Check of the copy is %d, not %d", f, e)
		}
	}
	if m := message.Copy(api.Message{}); len(m.Questions)+all(m) != 0 {
		t.Errorf("Copy of nothing = %v", m)
	}
}

// P10.3: Same.

// leaves goes over messages that are m but for one thing: a number, a text, a flag is another one; a list has one thing more, or less.
func leaves(m api.Message, f func(string, api.Message)) {
	var walk func(path string, v reflect.Value)
	changed := func(path string, v reflect.Value, to reflect.Value) {
		was := reflect.New(v.Type()).Elem()
		was.Set(v)
		v.Set(to)
		f(path, m)
		v.Set(was)
	}
	walk = func(path string, v reflect.Value) {
		switch v.Kind() {
		case reflect.Struct:
			for i := range v.NumField() {
				walk(path+"."+v.Type().Field(i).Name, v.Field(i))
			}
		case reflect.Slice:
			for i := range v.Len() {
				walk(fmt.Sprint(path, i), v.Index(i))
			}
			longer := reflect.MakeSlice(v.Type(), v.Len()+1, v.Len()+1)
			reflect.Copy(longer, v)
			changed(path+" longer", v, longer)
			if v.Len() > 0 {
				changed(path+" shorter", v, v.Slice(0, v.Len()-1))
				changed(path+" from its second on", v, v.Slice(1, v.Len()))
				changed(path+" empty", v, reflect.Zero(v.Type()))
			}
		case reflect.Bool:
			changed(path, v, reflect.ValueOf(!v.Bool()).Convert(v.Type()))
		case reflect.String:
			changed(path, v, reflect.ValueOf(v.String()+"x").Convert(v.Type()))
			if s := strings.ToLower(v.String()); s != v.String() {
				changed(path+" folded", v, reflect.ValueOf(s).Convert(v.Type()))
			}
		case reflect.Int:
			changed(path, v, reflect.ValueOf(v.Int()+1).Convert(v.Type()))
			changed(path+" by 16", v, reflect.ValueOf(v.Int()+16).Convert(v.Type()))
			changed(path+" by 2^32", v, reflect.ValueOf(v.Int()+1<<32).Convert(v.Type()))
		default:
			changed(path, v, reflect.ValueOf(v.Uint()+1).Convert(v.Type()))
			if v.Type().Bits() > 8 {
				changed(path+" by 256", v, reflect.ValueOf(v.Uint()+256).Convert(v.Type()))
			}
		}
	}
	walk("", reflect.ValueOf(&m).Elem())
}

func TestEachThingThatDiffers(t *testing.T) {
	seen := 0
	for _, m := range []api.Message{full(), {}, samples()[8]} {
		was := message.Copy(m)
		leaves(m, func(path string, other api.Message) {
			seen++
			if message.Same(was, other) || message.Same(other, was) {
				t.Errorf("%s: the same", path)
			}
			if !message.Same(other, message.Copy(other)) {
				t.Errorf("%s: not the same as itself", path)
			}
		})
		if !message.Same(m, was) {
			t.Error("not put back")
		}
	}
	if seen < 300 {
		t.Errorf("%d things only", seen)
	}
}

func TestSameOfAll(t *testing.T) {
	l := samples()
	for i, a := range l {
		for j, b := range l {
			if got, want := message.Same(a, b), alike(a, b); got != want || i == j && !got {
				t.Errorf("Same of %d and %d = %v", i, j, got)
			}
		}
	}
}

func TestNilAndEmptyAreTheSame(t *testing.T) {
	a, b := samples()[0], samples()[6]
	if !message.Same(a, b) || !message.Same(b, a) {
		t.Error("lists")
	}
	a, b = api.Message{Questions: []api.Question{{}}, Answer: []api.Record{{}}}, samples()[7]
	if !message.Same(a, b) || !message.Same(b, a) {
		t.Error("lists within")
	}
	a, b = api.Message{Answer: []api.Record{{Data: api.Data{Names: []api.Name{nil}}}}}, api.Message{Answer: []api.Record{{Data: api.Data{Names: []api.Name{{}}}}}}
	if !message.Same(a, b) || !message.Same(b, a) {
		t.Error("names")
	}
}

func TestWhatIsNotTheSame(t *testing.T) {
	r, s := rec("a.", api.A, raw(1, 2, 3, 4)), rec("b.", api.A, raw(1, 2, 3, 4))
	for title, l := range map[string][2]api.Message{
		"turned about":            {{Answer: []api.Record{r, s}}, {Answer: []api.Record{s, r}}},
		"in another list":         {{Answer: []api.Record{r}}, {Authority: []api.Record{r}}},
		"in the last list":        {{Authority: []api.Record{r}}, {Additional: []api.Record{r}}},
		"twice":                   {{Answer: []api.Record{r}}, {Answer: []api.Record{r, r}}},
		"questions turned about":  {{Questions: []api.Question{ask("a."), ask("b.")}}, {Questions: []api.Question{ask("b."), ask("a.")}}},
		"letters of a question":   {{Questions: []api.Question{ask("a.")}}, {Questions: []api.Question{ask("A.")}}},
		"letters of an owner":     {{Answer: []api.Record{r}}, {Answer: []api.Record{rec("A.", api.A, raw(1, 2, 3, 4))}}},
		"letters of a name":       {{Answer: []api.Record{rec(".", api.NS, host("a."))}}, {Answer: []api.Record{rec(".", api.NS, host("A."))}}},
		"a dot in a label":        {{Questions: []api.Question{ask("a.b.")}}, {Questions: []api.Question{{Name: api.Name{"a.b"}, Type: api.A, Class: api.IN}}}},
		"texts that are one":      {{Answer: []api.Record{rec(".", api.TXT, api.Data{Texts: []string{"a", "b"}})}}, {Answer: []api.Record{rec(".", api.TXT, api.Data{Texts: []string{"ab"}})}}},
		"an empty text":           {{Answer: []api.Record{rec(".", api.TXT, api.Data{Texts: []string{""}})}}, {Answer: []api.Record{rec(".", api.TXT, api.Data{})}}},
		"the root among no names": {{Answer: []api.Record{rec(".", api.NS, host("."))}}, {Answer: []api.Record{rec(".", api.NS, api.Data{})}}},
	} {
		if message.Same(l[0], l[1]) || message.Same(l[1], l[0]) {
			t.Errorf("%s: the same", title)
		}
	}
}

// Rule 4: an answer is new memory.

// span is a piece of memory: what a list reaches, its spare room too.
type span struct {
	from, to uintptr
	path     string
}

// spans tells what all lists of a value reach.
func spans(path string, v reflect.Value) []span {
	var l []span
	switch v.Kind() {
	case reflect.Struct:
		for i := range v.NumField() {
			l = append(l, spans(path+"."+v.Type().Field(i).Name, v.Field(i))...)
		}
	case reflect.Slice:
		if size := uintptr(v.Cap()) * v.Type().Elem().Size(); size > 0 {
			l = append(l, span{uintptr(v.UnsafePointer()), uintptr(v.UnsafePointer()) + size, path})
		}
		if v.Type().Elem().Kind() == reflect.Uint8 {
			break
		}
		for i := range v.Len() {
			l = append(l, spans(fmt.Sprint(path, i), v.Index(i))...)
		}
	}
	return l
}

// apart tells that no two lists of some values share memory.
func apart(t *testing.T, title string, values ...any) {
	t.Helper()
	var l []span
	for i, v := range values {
		l = append(l, spans(fmt.Sprint(i), reflect.ValueOf(v))...)
	}
	slices.SortFunc(l, func(a, b span) int { return int(int64(a.from) - int64(b.from)) })
	for i := range len(l) - 1 {
		if l[i].to > l[i+1].from {
			t.Errorf("%s: %s and %s share memory", title, l[i].path, l[i+1].path)
		}
	}
}

// spare tells the texts in the spare room of a value's lists.
func spare(v reflect.Value) []string {
	var l []string
	switch v.Kind() {
	case reflect.Struct:
		for i := range v.NumField() {
			l = append(l, spare(v.Field(i))...)
		}
	case reflect.Slice:
		for i := range v.Len() {
			l = append(l, spare(v.Index(i))...)
		}
		for i := v.Len(); i < v.Cap(); i++ {
			l = append(l, fmt.Sprint(v.Slice(0, v.Cap()).Index(i)))
		}
	}
	return l
}

// room lays a value's lists into greater ones, in which something stands behind them.
func room(v reflect.Value) {
	switch v.Kind() {
	case reflect.Struct:
		for i := range v.NumField() {
			room(v.Field(i))
		}
	case reflect.Slice:
		l := reflect.MakeSlice(v.Type(), v.Len()+2, v.Len()+2)
		reflect.Copy(l, v)
		for i := range v.Len() {
			room(l.Index(i))
		}
		for i := range 2 {
			scrawl(l.Index(v.Len() + i))
		}
		v.Set(l.Slice(0, v.Len()))
	}
}

// scrawl writes something over a value.
func scrawl(v reflect.Value) {
	switch v.Kind() {
	case reflect.Struct:
		for i := range v.NumField() {
			scrawl(v.Field(i))
		}
	case reflect.Slice:
		v.Set(reflect.MakeSlice(v.Type(), 1, 1))
		scrawl(v.Index(0))
	case reflect.String:
		v.SetString("scrawl")
	case reflect.Bool:
		v.SetBool(!v.Bool())
	case reflect.Int:
		v.SetInt(v.Int() + 77)
	default:
		v.SetUint(v.Uint() + 77)
	}
}

// scrawlAll writes over all that a value's lists reach, their spare room too.
func scrawlAll(v reflect.Value) {
	switch v.Kind() {
	case reflect.Struct:
		for i := range v.NumField() {
			scrawlAll(v.Field(i))
		}
	case reflect.Slice:
		l := v.Slice(0, v.Cap())
		for i := range l.Len() {
			scrawlAll(l.Index(i))
			scrawl(l.Index(i))
		}
	}
}

// whole tells a value as a text, its lists up to their capacity.
func whole(v reflect.Value) string {
	switch v.Kind() {
	case reflect.Struct:
		s := "{"
		for i := range v.NumField() {
			s += whole(v.Field(i)) + ","
		}
		return s + "}"
	case reflect.Slice:
		s := fmt.Sprint(v.Len(), "[")
		for i := range v.Cap() {
			s += whole(v.Slice(0, v.Cap()).Index(i)) + ","
		}
		return s + "]"
	}
	return fmt.Sprintf("%q", fmt.Sprint(v))
}

// lent tells a message in lists with spare room.
func lent(m api.Message) *api.Message {
	c := message.Copy(m)
	room(reflect.ValueOf(&c).Elem())
	return &c
}

func TestWhatIsHandedInStaysAsItWas(t *testing.T) {
	for i, m := range samples() {
		given, other := lent(m), lent(m)
		was := whole(reflect.ValueOf(*given))
		b, e := message.Bytes(*given)
		part, f := message.Part(*given, all(m)/2)
		c := message.Copy(*given)
		if message.Check(*given) != message.Check(m) || !message.Same(*given, *other) || !alike(c, m) {
			t.Errorf("%d: the spare room is looked at", i)
		}
		if x, g := message.Bytes(m); g != e || !slices.Equal(b, x) {
			t.Errorf("%d: Bytes looks at the spare room", i)
		}
		if x, g := message.Part(m, all(m)/2); g != f || !slices.Equal(part, x) {
			t.Errorf("%d: Part looks at the spare room", i)
		}
		if whole(reflect.ValueOf(*given)) != was {
			t.Errorf("%d: what was handed in is changed", i)
		}
		if strings.Contains(fmt.Sprint(spare(reflect.ValueOf(c))), "scrawl") {
			t.Errorf("%d: spare room is handed out", i)
		}
		again, _ := message.Bytes(*given)
		apart(t, fmt.Sprint("sample ", i), *given, c, message.Copy(*given), b, again, part)
	}
}

func TestCopyHangsOnNothing(t *testing.T) {
	for i, m := range samples() {
		given := lent(m)
		c, d := message.Copy(*given), message.Copy(*given)
		scrawlAll(reflect.ValueOf(given).Elem())
		if !alike(c, m) {
			t.Errorf("%d: a copy hangs on what was handed in", i)
		}
		scrawlAll(reflect.ValueOf(&c).Elem())
		if !alike(d, m) {
			t.Errorf("%d: two copies hang on each other", i)
		}
	}
}

func TestReadHangsOnNothing(t *testing.T) {
	r := rand.New(rand.NewSource(1006))
	for i := range 200 {
		m := some(r, 4, 4)
		b := told(m, all(m))
		given := append(slices.Clone(b), "spare room"...)
		was := slices.Clone(given)
		got, e := message.Read(given[:len(b)])
		again, _ := message.Read(given[:len(b)])
		if e != api.OK || !alike(got, m) || !slices.Equal(given, was) {
			t.Fatalf("%d: Read = %v, %d; %q", i, got, e, given)
		}
		for n := range len(b) {
			if _, e := message.Read(given[:n]); e != api.ErrBytes {
				t.Fatalf("%d: Read looks behind %d bytes", i, n)
			}
		}
		apart(t, "Read", got, again, given)
		clear(given)
		if !alike(got, m) {
			t.Fatalf("%d: what was read hangs on the bytes", i)
		}
		scrawlAll(reflect.ValueOf(&got).Elem())
		if !alike(again, m) {
			t.Fatalf("%d: two messages hang on each other", i)
		}
	}
}

// Texts are new memory, too: what was read must not change with the bytes, whatever else may.
func TestTextsOfWhatWasRead(t *testing.T) {
	m := api.Message{Questions: []api.Question{ask("abc.")}, Answer: []api.Record{rec("def.", api.TXT, api.Data{Texts: []string{"ghi"}})}}
	b := told(m, 1)
	got, _ := message.Read(b)
	from, to := uintptr(unsafe.Pointer(&b[0])), uintptr(unsafe.Pointer(&b[len(b)-1]))
	for _, s := range []string{got.Questions[0].Name[0], got.Answer[0].Owner[0], got.Answer[0].Data.Texts[0]} {
		if at := uintptr(unsafe.Pointer(unsafe.StringData(s))); from <= at && at <= to {
			t.Errorf("%q lies in the bytes", s)
		}
	}
}

// P1: calm, at all arguments.

func TestCalm(t *testing.T) {
	for _, m := range samples() {
		leaves(message.Copy(m), func(_ string, m api.Message) {
			e := message.Check(m)
			b, f := message.Bytes(m)
			if e != api.OK && (f != e || len(b) != 0) {
				t.Errorf("Bytes = %q, %d, not %d", b, f, e)
			}
			if f == api.OK {
				takes(t, "a message", m)
			}
			message.Part(m, 1)
			message.Copy(m)
		})
	}
}

package message_test

import (
	"math/rand"
	"slices"
	"strings"
	"testing"

	"nomenclator/api"
	"nomenclator/message"
)

// head tells a head's bytes of the ID 1 with counts below 65,536.
func head(counts ...int) string {
	b := []byte{0, 1, 0, 0}
	for _, n := range append(counts, make([]int, 4-len(counts))...) {
		b = append(b, byte(n/256), byte(n%256))
	}
	return string(b)
}

// reads tells that bytes are read as a message, and that what follows of it does.
func reads(t *testing.T, title, b string, want api.Message) {
	t.Helper()
	m, e := message.Read([]byte(b))
	if e != api.OK || !alike(m, want) {
		t.Errorf("%s: Read(%q) = %v, %d, not %v", title, b, m, e, want)
		return
	}
	follows(t, m)
}

// follows tells that what was read may be written, and is read again as it was (P10.4).
func follows(t *testing.T, m api.Message) {
	t.Helper()
	if e := message.Check(m); e != api.OK {
		t.Errorf("Check(%v) = %d", m, e)
	}
	b, e := message.Bytes(m)
	if size := len(told(m, all(m))); size > 65535 {
		if e != api.ErrLong || len(b) != 0 {
			t.Errorf("Bytes, of %d bytes, = %d bytes, %d", size, len(b), e)
		}
		return
	}
	if again, f := message.Read(b); e != api.OK || f != api.OK || !alike(again, m) || !message.Same(again, m) {
		t.Errorf("Read of Bytes(%v), %d, = %v, %d", m, e, again, f)
	}
}

// none tells that bytes are no message's.
func none(t *testing.T, title, b string) {
	t.Helper()
	if m, e := message.Read([]byte(b)); e != api.ErrBytes || !alike(m, api.Message{}) {
		t.Errorf("%s: Read(%.300q) = %v, %d", title, b, m, e)
	}
}

const ain = "\x00\x01\x00\x01"

// P10.2: Read.

func TestTheChaptersReads(t *testing.T) {
	m := api.Message{ID: 1, RD: true, Questions: []api.Question{ask("a.")}}
	reads(t, "the question", question, m)
	none(t, "without the last byte", question[:len(question)-1])
	none(t, "with one more", question+"\x00")
	none(t, "17 questions counted", head(17))
}

// A byte less, a byte more, none at all: at messages of all kinds.
func TestReadByLength(t *testing.T) {
	r := rand.New(rand.NewSource(102))
	l := []api.Message{{}, {ID: 65535, Questions: []api.Question{ask("a.")}}}
	for typ, d := range one() {
		l = append(l, api.Message{Questions: []api.Question{ask("a.")}, Answer: []api.Record{rec("a.", typ, d)}})
		l = append(l, api.Message{Additional: []api.Record{rec("a.", typ, d), rec("b.a.", typ, d)}})
	}
	for range 100 {
		l = append(l, some(r, 3, 2))
	}
	for _, m := range l {
		b := string(told(m, all(m)))
		reads(t, "a message", b, m)
		for n := range len(b) {
			none(t, "cut", b[:n])
		}
		for _, more := range []string{"\x00", "\x01", "\xc0", "\xff", "\x00\x00", b, "\x01a\x00" + ain} {
			none(t, "with more", b+more)
		}
	}
	none(t, "nothing", "")
	if _, e := message.Read(nil); e != api.ErrBytes {
		t.Errorf("Read(nil) = %d", e)
	}
	none(t, "zeros", strings.Repeat("\x00", 13))
	reads(t, "zeros", strings.Repeat("\x00", 12), api.Message{})
}

// P10.2: heads that count otherwise than there is, or too much.

func TestCountsThatAreNotSo(t *testing.T) {
	q, r := "\x01a\x00"+ain, "\x01b\x00"+kind(99)+"\x00\x02\x00\x00"
	for a := range 3 {
		for b := range 3 {
			for c := range 3 {
				for d := range 3 {
					body := strings.Repeat(q, a) + strings.Repeat(r, b+c+d)
					l := func(n int) []api.Record { return slices.Repeat([]api.Record{rec("b.", 99, raw(0, 0))}, n) }
					want := api.Message{ID: 1, Questions: slices.Repeat([]api.Question{ask("a.")}, a), Answer: l(b), Authority: l(c), Additional: l(d)}
					reads(t, "as there is", head(a, b, c, d)+body, want)
					none(t, "a question more", head(a+1, b, c, d)+body)
					none(t, "a record more", head(a, b+1, c, d)+body)
					none(t, "a record more", head(a, b, c+1, d)+body)
					none(t, "a record more", head(a, b, c, d+1)+body)
					none(t, "much more", head(a, b, 65535, d)+body)
					if a > 0 {
						none(t, "a question less", head(a-1, b, c, d)+body)
					}
					if b > 0 {
						none(t, "a record less", head(a, b-1, c, d)+body)
					}
					if c > 0 {
						none(t, "a record less", head(a, b, c-1, d)+body)
					}
					if d > 0 {
						none(t, "a record less", head(a, b, c, d-1)+body)
					}
				}
			}
		}
	}
}

func TestCountsAtTheLimits(t *testing.T) {
	q, r := "\x01a\x00"+ain, "\x01b\x00"+kind(99)+"\x00\x00"
	l := func(n int) []api.Record { return slices.Repeat([]api.Record{rec("b.", 99, raw())}, n) }
	for _, n := range []int{15, 16} {
		reads(t, "questions", head(n)+strings.Repeat(q, n), api.Message{ID: 1, Questions: slices.Repeat([]api.Question{ask("a.")}, n)})
	}
	for _, n := range []int{17, 18, 256, 272, 65535} {
		none(t, "questions", head(n)+strings.Repeat(q, n))
		none(t, "questions that are not there", head(n))
	}
	for _, c := range [][3]int{{512, 0, 0}, {0, 512, 0}, {0, 0, 512}, {171, 171, 170}, {1, 0, 511}, {0, 511, 1}} {
		reads(t, "records", head(0, c[0], c[1], c[2])+strings.Repeat(r, 512), api.Message{ID: 1, Answer: l(c[0]), Authority: l(c[1]), Additional: l(c[2])})
	}
	for _, c := range [][3]int{{513, 0, 0}, {0, 513, 0}, {0, 0, 513}, {171, 171, 171}, {1, 0, 512}, {0, 512, 1}, {256, 257, 0}, {512, 512, 512}} {
		none(t, "records", head(0, c[0], c[1], c[2])+strings.Repeat(r, c[0]+c[1]+c[2]))
	}
	none(t, "records", head(0, 65535, 65535, 65535)+strings.Repeat(r, 3*65535))
}

// P10.2: all that a head may say, and the bit that is never there.

func TestFlagBytes(t *testing.T) {
	for n := range 65536 {
		b := []byte(question)
		b[2], b[3] = byte(n>>8), byte(n)
		m, e := message.Read(b)
		want, ok := heard(b)
		if ok != (n&64 == 0) || ok != (e == api.OK) || !ok && e != api.ErrBytes || !alike(m, want) {
			t.Fatalf("Read(%q) = %v, %d, not %v", b, m, e, want)
		}
	}
}

// P10.2: names that point in other ways than Bytes writes them.

func questions(l ...api.Name) api.Message {
	m := api.Message{ID: 1}
	for _, n := range l {
		m.Questions = append(m.Questions, api.Question{Name: n, Type: api.A, Class: api.IN})
	}
	return m
}

func TestOtherPointers(t *testing.T) {
	reads(t, "none at all", head(2)+"\x01a\x01b\x00"+ain+"\x01a\x01b\x00"+ain, questions(of("a.b."), of("a.b.")))
	reads(t, "to a name's end alone", head(2)+"\x01a\x01b\x00"+ain+"\x01a\x01b\xc0\x10"+ain, questions(of("a.b."), of("a.b.")))
	reads(t, "to the root", head(2)+"\x01a\x00"+ain+"\xc0\x0e"+ain, questions(of("a."), nil))
	reads(t, "to a pointer", head(3)+"\x01a\x00"+ain+"\xc0\x0c"+ain+"\xc0\x13"+ain, questions(of("a."), of("a."), of("a.")))
	reads(t, "to a greater place than the least", head(3)+"\x01a\x00"+ain+"\x01a\x00"+ain+"\xc0\x13"+ain, questions(of("a."), of("a."), of("a.")))
	reads(t, "into a label", head(2)+"\x03\x01b\x00\x00"+ain+"\xc0\x0d"+ain, questions(api.Name{"\x01b\x00"}, of("b.")))
	reads(t, "of other letters", head(2)+"\x01a\x00"+ain+"\x01A\xc0\x0c"+ain, questions(of("a."), of("A.a.")))
	long := strings.Repeat("\x01a", 126) + "\x00"
	reads(t, "to the longest name", head(2)+long+ain+"\x01b\xc0\x0c"+ain, questions(slices.Repeat(api.Name{"a"}, 126), append(api.Name{"b"}, slices.Repeat(api.Name{"a"}, 126)...)))
	none(t, "to a name that is too long", head(2)+long+ain+"\x02bb\xc0\x0c"+ain)
	none(t, "to a name that is too long", head(2)+long+ain+"\x01b\x01b\xc0\x0c"+ain)
}

// Names may stand where nobody wrote one.
func TestOtherPlaces(t *testing.T) {
	m := questions(of("a."))
	m.ID = 0x0161
	reads(t, "the ID, with a 0 behind it", "\x01a\x00\x00\x00\x01\x00\x00\x00\x00\x00\x00"+"\xc0\x00"+ain, m)
	reads(t, "a count", head(1)+"\x01z\xc0\x05"+ain, questions(api.Name{"z", "\x00"}))
	reads(t, "a count", head(1)+"\xc0\x0b"+ain, questions(nil))
	reads(t, "a type", head(2)+"\x01a\x00"+ain+"\xc0\x0f"+ain, questions(of("a."), nil))
	// The TTL stands at 19, the length at 23, Raw at 25.
	first := "\x01a\x00" + "\x00\x63\x00\x01\x01b\x00\x00\x00\x04\x01c\xc0\x0c"
	second := "\x00\x63\x00\x01\x00\x00\x00\x00\x00\x00"
	r := api.Record{Owner: of("a."), Type: 99, Class: 1, TTL: 0x01620000, Data: raw(1, 'c', 192, 12)}
	for to, n := range map[string]api.Name{"\xc0\x13": of("b."), "\xc0\x15": nil, "\xc0\x17": nil, "\xc0\x19": of("c.a."), "\xc0\x1b": of("a."), "\xc0\x0c": of("a."), "\xc0\x0e": nil} {
		reads(t, "a TTL, a length, Raw", head(0, 2)+first+to+second, api.Message{ID: 1, Answer: []api.Record{r, {Owner: n, Type: 99, Class: 1}}})
	}
	none(t, "a type of 99, which is no length of a label", head(0, 2)+first+"\xc0\x10"+second)
}

// A name is read over all bytes, over the pointer that led to it, too, and over the end of the data in which that stands.
func TestNamesOverPointers(t *testing.T) {
	b := "\x0d\x07\x00\x00\x00\x00\x00\x01\x00\x00\x00\x00" + "\xc0\x00" + "\x00\x63\x00\x01\x00\x00\x00\x3c\x00\x00"
	reads(t, "a label of 13 bytes up to the type", b, api.Message{ID: 0x0d07, Answer: []api.Record{{Owner: api.Name{b[1:14]}, Type: 99, Class: 1, TTL: 60}}})
	b = "\x1c\x07\x00\x00\x00\x00\x00\x02\x00\x00\x00\x00" + "\x00" + kind(api.NS) + "\x00\x02\xc0\x00" + "\x03abc\x00" + kind(99) + "\x00\x00"
	reads(t, "a label of 28 bytes up to the next owner's end", b, api.Message{ID: 0x1c07, Answer: []api.Record{rec(".", api.NS, api.Data{Names: []api.Name{{b[1:29]}}}), rec("abc.", 99, raw())}})
}

// P10.2: pointers that lead nowhere.

func TestPointersThatMayNotBe(t *testing.T) {
	for title, b := range map[string]string{
		"to itself":                    head(1) + "\xc0\x0c" + ain,
		"to its stretch":               head(1) + "\x01a\xc0\x0c" + ain,
		"into its stretch":             head(1) + "\x01a\x01b\xc0\x0e" + ain,
		"behind":                       head(2) + "\xc0\x12" + ain + "\x01a\x00" + ain,
		"to the end":                   head(1) + "\xc0\x12" + ain,
		"past the end":                 head(1) + "\xff\xff" + ain,
		"to each other":                head(2) + "\x01a\xc0\x14" + ain + "\x01b\xc0\x0c" + ain,
		"to one that goes too far":     head(2) + "\x01a\x00" + ain + "\xc0\x10" + ain,
		"half of one":                  head(1) + "\xc0",
		"a label of 64":                head(1) + "\x40" + strings.Repeat("a", 64) + "\x00" + ain,
		"a label of 128":               head(1) + "\x80\x0c" + ain,
		"a label past the end":         head(1) + "\x3f" + ain,
		"a name without an end":        head(1) + "\x01a",
		"an owner to itself":           head(0, 1) + "\xc0\x0c" + kind(99) + "\x00\x00",
		"an owner behind":              head(0, 1) + "\xc0\x17" + kind(99) + "\x00\x01\x00",
		"to a stretch that comes back": head(0, 2) + "\x00" + kind(99) + "\x00\x02\x01a" + "\xc0\x17" + kind(99) + "\x00\x00",
	} {
		none(t, title, b)
	}
}

// P10.2: pointers in data. The owner a.b. stands at 12, b. at 14; the data begin at 27.

func TestPointersInData(t *testing.T) {
	nums := "\x00\x00\x00\x01\x00\x00\x00\x02\x00\x00\x00\x03\x00\x00\x00\x04\x00\x00\x00\x05"
	sized := func(t api.Type, data string) string {
		return head(0, 0, 1) + "\x01a\x01b\x00" + kind(t) + "\x00" + string([]byte{byte(len(data))}) + data
	}
	for _, c := range []struct {
		t    api.Type
		data string
		want api.Data
	}{
		{api.NS, "\x01a\x01b\x00", host("a.b.")},
		{api.NS, "\xc0\x0c", host("a.b.")},
		{api.CNAME, "\xc0\x0e", host("b.")},
		{api.PTR, "\xc0\x10", host(".")},
		{api.NS, "\x01c\x01a\xc0\x0e", host("c.a.b.")},
		{api.NS, "\xc0\x12", api.Data{Names: []api.Name{{"\x00\x01"}}}}, // the type, and the class behind it
		{api.MX, "\x00\x07\xc0\x0c", mx(7, "a.b.")},
		{api.MX, "\x00\x00\xc0\x1b", mx(0, ".")},
		{api.MX, "\x01\x00\xc0\x1c", mx(256, ".")},
		{api.SOA, "\xc0\x0c\xc0\x0e" + nums, soa("a.b.", "b.")},
		{api.SOA, "\x01c\x00\xc0\x1b" + nums, soa("c.", "c.")},
		{api.SOA, "\x01c\x01d\x00\xc0\x1d" + nums, soa("c.d.", "d.")},
		{api.SOA, "\x01c\x00\xc0\x1d" + nums, soa("c.", ".")},
		{api.SOA, "\xc0\x0e\xc0\x1b" + nums, soa("b.", "b.")},
		{api.SRV, "\x00\x01\x00\x02\x00\x03\x01a\x01b\x00", srv("a.b.")},
		{api.TXT, "\x02\xc0\x0c", api.Data{Texts: []string{"\xc0\x0c"}}},
		{99, "\xc0\x1b", raw(192, 27)},
	} {
		reads(t, "data", sized(c.t, c.data), api.Message{ID: 1, Authority: []api.Record{rec("a.b.", c.t, c.want)}})
	}
	for _, c := range []struct {
		t    api.Type
		data string
	}{
		{api.NS, "\xc0\x1b"}, {api.NS, "\xc0\x1c"}, {api.NS, "\xc0\x1d"}, {api.NS, "\xff\xff"}, {api.NS, "\x01c\xc0\x1b"}, {api.NS, "\xc0\x18"}, {api.CNAME, "\xc0\x1b"}, {api.PTR, "\x01c\x01d\xc0\x1d"}, {api.NS, "\x40"}, {api.NS, "\x80\x0c"},
		{api.MX, "\x00\x07\xc0\x1d"}, {api.MX, "\x01a\xc0\x1b"}, {api.MX, "\x00\x07\xc0\x1e"},
		{api.SOA, "\xc0\x1d\x01c\x00" + nums}, {api.SOA, "\xc0\x0c\xc0\x1d" + nums}, {api.SOA, "\xc0\x1b\xc0\x1b" + nums}, {api.SOA, "\xc0\x0c\xc0\x1f" + nums},
		{api.SRV, "\x00\x01\x00\x02\x00\x03\xc0\x0c"}, {api.SRV, "\x00\x01\x00\x02\x00\x03\x01a\xc0\x0e"}, {api.SRV, "\x00\x01\x00\x02\x00\x03\xc0\x10"},
	} {
		none(t, "data", sized(c.t, c.data))
	}
}

// P10.2: data end where their length says: cut, and with zeros behind, they are read where they are whole alone.

func TestDataAndTheirLength(t *testing.T) {
	nums := strings.Repeat("\x00", 20)
	last := "\x00" + kind(99) + "\x00\x00"
	for _, c := range []struct {
		t     api.Type
		data  string
		sizes []int
	}{
		{api.A, "\x01\x02\x03\x04", []int{4}},
		{api.AAAA, "0123456789abcdef", []int{16}},
		{api.NS, "\x01a\x00", []int{3}},
		{api.NS, "\xc0\x0c", []int{2}},
		{api.NS, "\x01c\xc0\x0c", []int{4}},
		{api.CNAME, "\x00", []int{1}},
		{api.PTR, "\x01a\x01b\xc0\x0c", []int{6}},
		{api.MX, "\x00\x07\x00", []int{3}},
		{api.MX, "\x00\x07\xc0\x0c", []int{4}},
		{api.SOA, "\xc0\x0c\xc0\x0c" + nums, []int{24}},
		{api.SOA, "\x00\x00" + nums, []int{22}},
		{api.SOA, "\x01a\x00\x01b\x00" + nums, []int{26}},
		{api.SRV, "\x00\x01\x00\x02\x00\x03\x01a\x00", []int{9}},
		{api.TXT, "\x01a\x00\x02bc", []int{2, 3, 6, 7, 8, 9}},
		{api.CAA, "\x00\x03tagx", []int{5, 6, 7, 8, 9}},
		{99, "\x01a", []int{0, 1, 2, 3, 4, 5}},
	} {
		for size := range len(c.data) + 4 {
			data := (c.data + "\x00\x00\x00")[:size]
			own := "\x01o\x00" + string([]byte{byte(c.t >> 8), byte(c.t)}) + "\x00\x01\x00\x00\x00\x3c\x00" + string([]byte{byte(size)}) + data
			whole := slices.Contains(c.sizes, size)
			for i, b := range []string{head(0, 1) + own, head(0, 2) + own + last} {
				m, e := message.Read([]byte(b))
				if whole && (e != api.OK || len(m.Answer) != i+1) || !whole && e != api.ErrBytes {
					t.Errorf("%d: Read(%q) = %v, %d", c.t, b, m, e)
				}
			}
		}
	}
}

// A name that ends behind the length, though all bytes behind are read well.
func TestNamesThatEndBehindTheirData(t *testing.T) {
	last := "\x00" + kind(99) + "\x00\x00"
	none(t, "NS", head(0, 2)+"\x00"+kind(api.NS)+"\x00\x02\x01a"+last)
	none(t, "NS, no bytes", head(0, 2)+"\x00"+kind(api.NS)+"\x00\x00"+last)
	none(t, "NS, half a pointer", head(0, 2)+"\x01b\x00"+kind(api.NS)+"\x00\x01\xc0"+last)
	none(t, "MX", head(0, 2)+"\x00"+kind(api.MX)+"\x00\x04\x00\x01\x01a"+last)
	none(t, "MX, the number alone", head(0, 2)+"\x00"+kind(api.MX)+"\x00\x02\x00\x01"+last)
	none(t, "MX, half the number", head(0, 2)+"\x00"+kind(api.MX)+"\x00\x01\x00"+last)
	none(t, "MX, no bytes", head(0, 2)+"\x00"+kind(api.MX)+"\x00\x00"+last)
	none(t, "SOA, the first name alone", head(0, 2)+"\x00"+kind(api.SOA)+"\x00\x01\x00"+last)
	none(t, "SOA, both names alone", head(0, 2)+"\x00"+kind(api.SOA)+"\x00\x02\x00\x00"+last)
	none(t, "SRV", head(0, 2)+"\x00"+kind(api.SRV)+"\x00\x08\x00\x01\x00\x01\x00\x01\x01a"+last)
	none(t, "TXT", head(0, 2)+"\x00"+kind(api.TXT)+"\x00\x02\x02a"+last)
}

// P10.2: data that are not of their type, and types that have none.

func TestDataOfOtherTypes(t *testing.T) {
	for n := range 65536 {
		typ := string([]byte{byte(n >> 8), byte(n)})
		for _, data := range []string{"", "\x00", "\x01\x02\x03\x04", "\x00\x01\x00", "\x01a\x01b\x00"} {
			b := head(0, 0, 0, 1) + "\x00" + typ + "\x00\x01\x00\x00\x00\x00\x00" + string([]byte{byte(len(data))}) + data
			m, e := message.Read([]byte(b))
			want, ok := heard([]byte(b))
			if ok != (e == api.OK) || !ok && e != api.ErrBytes || !alike(m, want) {
				t.Fatalf("Read(%q) = %v, %d, not %v, %v", b, m, e, want, ok)
			}
			if (n == 0 || n >= 128 && n <= 255) && ok {
				t.Fatalf("Read(%q) = %v, %d", b, m, e)
			}
		}
	}
}

// P10.2 sets no bound to how many bytes there are; P10.4 speaks of those that are too many.

func TestManyBytes(t *testing.T) {
	data := strings.Repeat("x", 65535)
	b, m := head(0, 3), api.Message{ID: 1}
	for range 3 {
		b += "\x00" + kind(99) + "\xff\xff" + data
		m.Answer = append(m.Answer, rec(".", 99, api.Data{Raw: []byte(data)}))
	}
	reads(t, "too many to be written", b, m)
	none(t, "one less", b[:len(b)-1])
	n := slices.Repeat(api.Name{"a"}, 127)
	b, m = head(0, 512), api.Message{ID: 1}
	for range 512 {
		b += strings.Repeat("\x01a", 127) + "\x00" + kind(99) + "\x00\x00"
		m.Answer = append(m.Answer, api.Record{Owner: n, Type: 99, Class: 1, TTL: 60})
	}
	reads(t, "not too many with pointers", b, m)
}

// Few bytes that are many, if they are written: names that lie over one another in Raw.
func TestFewBytesThatBecomeMany(t *testing.T) {
	r := rand.New(rand.NewSource(104))
	var data []byte
	var places []int
	for range 59 {
		at := len(data)
		for range 200 {
			data = append(data, byte(40+r.Intn(24)))
		}
		data = append(data, make([]byte, 64)...)
		for range 8 {
			places = append(places, 23+at+20+r.Intn(40))
		}
	}
	b := head(0, 1+len(places)) + "\x00" + kind(99) + string([]byte{byte(len(data) >> 8), byte(len(data))}) + string(data)
	for _, at := range places {
		b += string([]byte{192 + byte(at>>8), byte(at)}) + kind(99) + "\x00\x00"
	}
	want, ok := heard([]byte(b))
	if size := len(told(want, all(want))); !ok || len(b) > 65535 || size <= 65535 {
		t.Fatalf("%v: %d bytes, %d when written", ok, len(b), size)
	}
	reads(t, "names over one another", b, want)
}

// Reading ends, also where each name goes by thousands of pointers.
func TestChainsOfPointers(t *testing.T) {
	data := []byte{0}
	for at := 23; len(data) < 16300; at = 23 + len(data) - 2 {
		data = append(data, 192+byte(at>>8), byte(at))
	}
	lead := head(0, 512) + "\x00" + kind(99) + string([]byte{byte(len(data) >> 8), byte(len(data))}) + string(data)
	lastOne := 23 + len(data) - 2
	b, m := lead, api.Message{ID: 1, Answer: []api.Record{rec(".", 99, api.Data{Raw: data})}}
	for range 511 {
		b += string([]byte{192 + byte(lastOne>>8), byte(lastOne)}) + kind(99) + "\x00\x00"
		m.Answer = append(m.Answer, rec(".", 99, raw()))
	}
	reads(t, "a chain", b, m)
}

// P10.2, P10.4: Read held against the long way, by chance.

// agree tells that Read answers what the long way does, and what follows of it; and whether it was a message.
func agree(t *testing.T, b []byte) bool {
	t.Helper()
	want, ok := heard(b)
	m, e := message.Read(b)
	if ok != (e == api.OK) || !ok && e != api.ErrBytes || !alike(m, want) {
		t.Fatalf("Read(%q) = %v, %d, not %v, %v", b, m, e, want, ok)
	}
	if ok {
		follows(t, m)
	}
	return ok
}

// spoil changes bytes here and there.
func spoil(r *rand.Rand, b []byte) []byte {
	for range 1 + r.Intn(3) {
		at := r.Intn(len(b))
		switch r.Intn(6) {
		case 0:
			b[at] = byte(r.Intn(256))
		case 1:
			b[at] = []byte{0, 1, 2, 63, 64, 191, 192, 255}[r.Intn(8)]
		case 2:
			b[at] += byte(r.Intn(3) - 1)
		case 3:
			b = slices.Insert(b, at, byte(r.Intn(3)))
		case 4:
			b = slices.Delete(b, at, at+1)
		case 5:
			to := r.Intn(len(b))
			b[at] = 192 + byte(to>>8)
			if at+1 < len(b) {
				b[at+1] = byte(to)
			}
		}
		if len(b) == 0 {
			return b
		}
	}
	return b
}

func TestSpoiltBytesByChance(t *testing.T) {
	r := rand.New(rand.NewSource(1002))
	good, bad := 0, 0
	for range 2000 {
		m := some(r, 2, 2)
		b := told(m, all(m))
		for range 20 {
			if agree(t, spoil(r, slices.Clone(b))) {
				good++
			} else {
				bad++
			}
		}
	}
	if good < 1000 || bad < 1000 {
		t.Errorf("%d were read, %d were not", good, bad)
	}
}

// pointed tells a name's bytes that point anywhere ahead of a place.
func pointed(r *rand.Rand, at int) string {
	s := ""
	for range r.Intn(3) {
		s += []string{"\x01a", "\x02bc", "\x01\x00", "\x01\xc0", "\x02\x01d"}[r.Intn(5)]
	}
	if r.Intn(4) == 0 {
		return s + "\x00"
	}
	to := max(0, min(r.Intn(at+len(s)+1), at-1+r.Intn(2)))
	return s + string([]byte{192 + byte(to>>8), byte(to)})
}

// Names point wherever they like: into the head, numbers, labels, other pointers.
func TestPointersByChance(t *testing.T) {
	r := rand.New(rand.NewSource(1003))
	good, bad := 0, 0
	for range 30000 {
		questions, records := r.Intn(3), r.Intn(3)
		b := head(questions, 0, records)
		if r.Intn(2) == 0 {
			b = string([]byte{byte(r.Intn(3)), byte(r.Intn(3))}) + b[2:]
		}
		for range questions {
			b += pointed(r, len(b)) + "\x00" + string([]byte{byte(r.Intn(4))}) + "\x00\x01"
		}
		for range records {
			typ := []api.Type{api.NS, api.CNAME, api.PTR, api.SOA, api.MX, api.SRV, 99}[r.Intn(7)]
			b += pointed(r, len(b)) + kind(typ)
			at, data := len(b)+2, ""
			for range map[api.Type]int{api.MX: 1, api.SRV: 3}[typ] {
				data += "\x00\x01"
			}
			for range max(1, map[api.Type]int{api.SOA: 2}[typ]) {
				data += pointed(r, at+len(data))
			}
			data += strings.Repeat("\x00\x00\x00\x01", map[api.Type]int{api.SOA: 5}[typ])
			b += "\x00" + string([]byte{byte(len(data))}) + data
		}
		if agree(t, []byte(b)) {
			good++
		} else {
			bad++
		}
	}
	if good < 3000 || bad < 3000 {
		t.Errorf("%d were read, %d were not", good, bad)
	}
}

func TestAnyBytesByChance(t *testing.T) {
	r := rand.New(rand.NewSource(1004))
	for i := range 60000 {
		b := make([]byte, r.Intn(60))
		r.Read(b)
		if i%2 == 0 {
			for j := range b {
				b[j] %= 3
			}
		}
		if i%3 == 0 {
			copy(b, head(r.Intn(3), r.Intn(2), r.Intn(2), r.Intn(2)))
		}
		agree(t, b)
	}
}

func FuzzRead(f *testing.F) {
	f.Add([]byte(question))
	f.Add([]byte{})
	f.Add([]byte(head(17)))
	for typ, d := range one() {
		m := api.Message{Questions: []api.Question{ask("a.")}, Authority: []api.Record{rec("a.", typ, d), rec("b.a.", typ, d)}}
		f.Add(told(m, 2))
	}
	f.Fuzz(func(t *testing.T, b []byte) { agree(t, b) })
}

package message_test

import (
	"bytes"
	"math"
	"math/rand"
	"slices"
	"strings"
	"testing"

	"nomenclator/api"
	"nomenclator/message"
)

// P10.1: Bytes, letter by letter.

const question = "\x00\x01\x01\x00\x00\x01\x00\x00\x00\x00\x00\x00" + "\x01a\x00\x00\x01\x00\x01"

// kind is what stands between an owner and the length of data: a type below 256, IN, the TTL 60.
func kind(t api.Type) string { return "\x00" + string([]byte{byte(t)}) + "\x00\x01\x00\x00\x00\x3c" }

func TestTheChaptersBytes(t *testing.T) {
	m := api.Message{ID: 1, RD: true, Questions: []api.Question{ask("a.")}}
	if b, e := message.Bytes(m); e != api.OK || string(b) != question {
		t.Errorf("Bytes = %q, %d", b, e)
	}
	m.Answer = []api.Record{rec("a.", api.A, raw(1, 2, 3, 4))}
	if b, e := message.Bytes(m); e != api.OK || string(b[len(question):]) != "\xc0\x0c"+kind(api.A)+"\x00\x04\x01\x02\x03\x04" || string(b[4:12]) != "\x00\x01\x00\x01\x00\x00\x00\x00" {
		t.Errorf("Bytes = %q, %d", b, e)
	}
	if b, e := message.Part(m, 0); e != api.OK || string(b) != question {
		t.Errorf("Part(0) = %q, %d", b, e)
	}
	if b, e := message.Part(m, 2); e != api.ErrArg || len(b) != 0 {
		t.Errorf("Part(2) = %q, %d", b, e)
	}
}

func TestNothingButAHead(t *testing.T) {
	for _, m := range []api.Message{{}, {Questions: []api.Question{}, Answer: []api.Record{}, Authority: []api.Record{}, Additional: []api.Record{}}} {
		if b, e := message.Bytes(m); e != api.OK || string(b) != strings.Repeat("\x00", 12) {
			t.Errorf("Bytes = %q, %d", b, e)
		}
	}
}

// The head counts each list at its place.
func TestCounts(t *testing.T) {
	l := func(n int) []api.Record { return slices.Repeat([]api.Record{rec(".", 99, raw())}, n) }
	m := api.Message{ID: 258, Response: true, AA: true, RD: true, Rcode: 3, Questions: slices.Repeat([]api.Question{ask(".")}, 3), Answer: l(258), Authority: l(4), Additional: l(5)}
	b, e := message.Bytes(m)
	if e != api.OK || string(b[:12]) != "\x01\x02\x85\x03\x00\x03\x01\x02\x00\x04\x00\x05" || len(b) != 12+3*5+267*11 {
		t.Errorf("Bytes = %q, %d", b[:12], e)
	}
}

// Lists stand one behind the other: the answer, the authority, the additional ones.
func TestTheOrderOfLists(t *testing.T) {
	r := func(c byte) api.Record { return rec(".", 99, raw(c)) }
	m := api.Message{Answer: []api.Record{r(1), r(2)}, Authority: []api.Record{r(3)}, Additional: []api.Record{r(4), r(5)}}
	b, e := message.Bytes(m)
	want := ""
	for _, c := range []string{"\x01", "\x02", "\x03", "\x04", "\x05"} {
		want += "\x00" + kind(99) + "\x00\x01" + c
	}
	if e != api.OK || string(b[12:]) != want {
		t.Errorf("Bytes = %q, %d", b, e)
	}
}

// P10.1: which names point back, and how many bytes data have then. The question is www.a.b. at 12; a.b. stands at 16, b. at 18.

func TestNamesPointBack(t *testing.T) {
	nums := "\x00\x00\x00\x01\x00\x00\x00\x02\x00\x00\x00\x03\x00\x00\x00\x04\x00\x00\x00\x05"
	for _, c := range []struct {
		r    api.Record
		want string
	}{
		{rec("www.a.b.", api.NS, host("a.b.")), "\xc0\x0c" + kind(api.NS) + "\x00\x02\xc0\x10"},
		{rec("a.b.", api.CNAME, host("c.b.")), "\xc0\x10" + kind(api.CNAME) + "\x00\x04\x01c\xc0\x12"},
		{rec("x.b.", api.PTR, host("x.b.")), "\x01x\xc0\x12" + kind(api.PTR) + "\x00\x02\xc0\x19"},
		{rec(".", api.NS, host(".")), "\x00" + kind(api.NS) + "\x00\x01\x00"},
		{rec("b.", api.SOA, soa("ns.a.b.", "q.ns.a.b.")), "\xc0\x12" + kind(api.SOA) + "\x00\x1d\x02ns\xc0\x10\x01q\xc0\x25" + nums},
		{rec("b.", api.SOA, soa("q.", "q.")), "\xc0\x12" + kind(api.SOA) + "\x00\x19\x01q\x00\xc0\x25" + nums},
		{rec("b.", api.MX, mx(258, "www.a.b.")), "\xc0\x12" + kind(api.MX) + "\x00\x04\x01\x02\xc0\x0c"},
		{rec("b.", api.MX, mx(258, "m.A.b.")), "\xc0\x12" + kind(api.MX) + "\x00\x08\x01\x02\x01m\x01A\xc0\x12"},
		{rec("B.", api.NS, host("a.B.")), "\x01B\x00" + kind(api.NS) + "\x00\x04\x01a\xc0\x19"},
		{rec("b.", api.SRV, srv("a.b.")), "\xc0\x12" + kind(api.SRV) + "\x00\x0b\x00\x01\x00\x02\x00\x03\x01a\x01b\x00"},
		{rec("b.", api.TXT, api.Data{Texts: []string{"a", "b", ""}}), "\xc0\x12" + kind(api.TXT) + "\x00\x05\x01a\x01b\x00"},
		{rec("b.", 39, raw(1, 'a', 1, 'b', 0)), "\xc0\x12" + kind(39) + "\x00\x05\x01a\x01b\x00"},
		{rec("b.", api.OPT, raw(192, 12)), "\xc0\x12" + kind(api.OPT) + "\x00\x02\xc0\x0c"},
		{rec("b.", api.CAA, api.Data{Nums: []uint32{0}, Texts: []string{"a", "\x01b\x00"}}), "\xc0\x12\x01\x01\x00\x01\x00\x00\x00\x3c\x00\x06\x00\x01a\x01b\x00"},
	} {
		m := api.Message{Questions: []api.Question{ask("www.a.b.")}, Answer: []api.Record{c.r}}
		if b, e := message.Bytes(m); e != api.OK || string(b[25:]) != c.want {
			t.Errorf("Bytes(%v) = %q, %d, not %q", c.r, b[25:], e, c.want)
		}
		takes(t, "a record", m)
	}
}

// What was written in data is pointed to from behind: also a name that does not point itself, but not bytes that are no name's.
func TestPointersIntoData(t *testing.T) {
	for _, c := range []struct {
		t    api.Type
		d    api.Data
		want string // the owner n.m. behind it
	}{
		// The data begin at 23: 12 bytes of the head, the root, ten of the record.
		{api.NS, host("n.m."), "\xc0\x17"},
		{api.CNAME, host("o.n.m."), "\xc0\x19"},
		{api.PTR, host("m."), "\x01n\xc0\x17"},
		{api.MX, mx(1, "n.m."), "\xc0\x19"},
		{api.SOA, soa("n.m.", "."), "\xc0\x17"},
		{api.SOA, soa(".", "n.m."), "\xc0\x18"},
		{api.SRV, srv("n.m."), "\xc0\x1d"},
		{api.SRV, srv("o.n.m."), "\xc0\x1f"},
		{api.SRV, srv("m."), "\x01n\xc0\x1d"},
		{api.NS, host("N.m."), "\x01n\xc0\x19"},
		{api.SRV, srv("n.M."), "\x01n\x01m\x00"},
		{99, raw(1, 'n', 1, 'm', 0), "\x01n\x01m\x00"},
		{api.TXT, api.Data{Texts: []string{"n", "m", ""}}, "\x01n\x01m\x00"},
	} {
		m := api.Message{Authority: []api.Record{rec(".", c.t, c.d)}, Additional: []api.Record{rec("n.m.", api.OPT, raw()), rec("n.m.", api.SRV, srv("n.m."))}}
		head, _ := message.Part(m, 1)
		b, e := message.Bytes(m)
		if e != api.OK || !strings.HasPrefix(string(b[len(head):]), c.want+kind(api.OPT)) {
			t.Errorf("%d: Bytes = %q, %d", c.t, b[len(head):], e)
		}
		if !bytes.HasSuffix(b, []byte("\x00\x0b\x00\x01\x00\x02\x00\x03\x01n\x01m\x00")) {
			t.Errorf("%d: a name of SRV points back: %q", c.t, b)
		}
		takes(t, "a name behind data", m)
	}
}

func TestQuestionsPointBack(t *testing.T) {
	m := api.Message{Questions: []api.Question{ask("a.b."), ask("c.b."), ask("a.b."), ask("."), ask("A.b.")}}
	b, e := message.Bytes(m)
	k := "\x00\x01\x00\x01"
	if want := "\x01a\x01b\x00" + k + "\x01c\xc0\x0e" + k + "\xc0\x0c" + k + "\x00" + k + "\x01A\xc0\x0e" + k; e != api.OK || string(b[12:]) != want {
		t.Errorf("Bytes = %q, %d, not %q", b[12:], e, want)
	}
}

// Nothing points to places from 16,384 on.
func TestTheReachOfPointers(t *testing.T) {
	for size := 16340; size < 16400; size++ {
		m := api.Message{Answer: []api.Record{rec(".", 99, api.Data{Raw: make([]byte, size)}), rec("a.b.", api.NS, host("c.b.")), rec("a.b.", api.MX, mx(1, "b.")), rec("c.b.", api.SRV, srv("a.b."))}}
		takes(t, "names at the reach", m)
	}
}

// P10.1: 65,535 bytes are not too many, one more is: whatever stands last.

func TestTheLongestMessages(t *testing.T) {
	for typ, d := range one() {
		for _, owner := range []string{".", "a.", "q.", "q.a."} {
			for over := -1; over <= 11; over++ { // the shortest record has eleven bytes
				m := api.Message{Questions: []api.Question{ask("a.")}, Answer: []api.Record{rec(".", 99, raw())}, Authority: []api.Record{rec(owner, typ, d)}}
				m.Answer[0].Data.Raw = make([]byte, 65535-len(told(m, 2))+over)
				if over <= 0 {
					takes(t, "a long message", m)
					continue
				}
				if e := message.Check(m); e != api.OK {
					t.Errorf("Check = %d", e)
				}
				if b, e := message.Bytes(m); e != api.ErrLong || len(b) != 0 {
					t.Errorf("%d, %s: %d bytes over: Bytes = %d bytes, %d", typ, owner, over, len(b), e)
				}
				if b, e := message.Part(m, 2); e != api.ErrLong || len(b) != 0 {
					t.Errorf("%d, %s: %d bytes over: Part = %d bytes, %d", typ, owner, over, len(b), e)
				}
				if b, e := message.Part(m, 1); e != api.OK || !bytes.Equal(b, told(m, 1)) {
					t.Errorf("%d, %s: %d bytes over: Part(1) = %d bytes, %d", typ, owner, over, len(b), e)
				}
			}
		}
	}
}

// The longest data may be, but not in a message; and much more is refused likewise.
func TestDataThatFillAMessage(t *testing.T) {
	for _, c := range []struct {
		d    int
		want api.Errno
	}{
		{65512, api.OK}, {65513, api.ErrLong}, {65535, api.ErrLong},
	} {
		m := api.Message{Additional: []api.Record{rec(".", 99, api.Data{Raw: make([]byte, c.d)})}}
		if e := message.Check(m); e != api.OK {
			t.Errorf("%d: Check = %d", c.d, e)
		}
		if b, e := message.Bytes(m); e != c.want || e == api.OK && len(b) != 65535 || e != api.OK && len(b) != 0 {
			t.Errorf("%d: Bytes = %d bytes, %d", c.d, len(b), e)
		}
	}
	m := api.Message{Answer: slices.Repeat([]api.Record{rec("a.", 99, api.Data{Raw: make([]byte, 65535)})}, 512)}
	if b, e := message.Bytes(m); message.Check(m) != api.OK || e != api.ErrLong || len(b) != 0 {
		t.Errorf("Bytes = %d bytes, %d", len(b), e)
	}
}

// Pointers save so much that a message fits.
func TestPointersMakeRoom(t *testing.T) {
	n := slices.Repeat(api.Name{"a"}, 127)
	r := api.Record{Owner: n, Type: api.SOA, Data: api.Data{Names: []api.Name{n, n}, Nums: make([]uint32, 5)}}
	takes(t, "512 long names", api.Message{Questions: slices.Repeat([]api.Question{{Name: n}}, 16), Answer: slices.Repeat([]api.Record{r}, 512)})
	r.Type, r.Data = api.SRV, api.Data{Names: []api.Name{n}, Nums: make([]uint32, 3)}
	m := api.Message{Answer: slices.Repeat([]api.Record{r}, 512)}
	if b, e := message.Bytes(m); e != api.ErrLong || len(b) != 0 {
		t.Errorf("Bytes = %d bytes, %d", len(b), e)
	}
	if b, e := message.Part(m, 239); e != api.OK || !bytes.Equal(b, told(m, 239)) {
		t.Errorf("Part(239) = %d bytes, %d", len(b), e)
	}
	if b, e := message.Part(m, 240); e != api.ErrLong || len(b) != 0 {
		t.Errorf("Part(240) = %d bytes, %d: %d", len(b), e, len(told(m, 240)))
	}
}

// P10.3: Part.

func TestPart(t *testing.T) {
	for _, c := range [][3]int{{0, 0, 0}, {1, 0, 0}, {0, 2, 0}, {0, 0, 3}, {2, 0, 2}, {3, 2, 4}, {0, 3, 1}, {1, 1, 1}} {
		l := func(n int, c byte) []api.Record {
			var l []api.Record
			for i := range n {
				l = append(l, rec("a.b.", 99, raw(c, byte(i))), rec("b.", api.NS, host("c.b.")))
			}
			return l[:n]
		}
		m := api.Message{ID: 7, Response: true, TC: true, Opcode: 4, Questions: []api.Question{ask("a.b."), ask(".")}, Answer: l(c[0], 1), Authority: l(c[1], 2), Additional: l(c[2], 3)}
		for n := range all(m) + 1 {
			want := told(m, n)
			if b, e := message.Part(m, n); e != api.OK || !bytes.Equal(b, want) {
				t.Errorf("%v: Part(%d) = %q, %d, not %q", c, n, b, e, want)
			}
			a := min(n, c[0])
			d := min(n-a, c[1])
			short := m
			short.Answer, short.Authority, short.Additional = m.Answer[:a], m.Authority[:d], m.Additional[:n-a-d]
			if b, e := message.Bytes(short); e != api.OK || !bytes.Equal(b, want) {
				t.Errorf("%v: Bytes of the first %d = %q, %d, not %q", c, n, b, e, want)
			}
		}
		for _, n := range []int{math.MinInt, -65536, -2, -1, all(m) + 1, all(m) + 2, 513, 65536, math.MaxInt} {
			if b, e := message.Part(m, n); e != api.ErrArg || len(b) != 0 {
				t.Errorf("%v: Part(%d) = %q, %d", c, n, b, e)
			}
		}
	}
}

// Part's errors: Check's of the whole message, then that of the number, then that of the bytes.
func TestPartsErrors(t *testing.T) {
	great := rec(".", 99, api.Data{Raw: make([]byte, 40000)})
	m := api.Message{Answer: []api.Record{rec(".", 99, raw(1)), great}, Authority: []api.Record{great}, Additional: []api.Record{rec(".", 99, raw(2))}}
	for n, want := range map[int]api.Errno{-1: api.ErrArg, 0: api.OK, 1: api.OK, 2: api.OK, 3: api.ErrLong, 4: api.ErrLong, 5: api.ErrArg} {
		b, e := message.Part(m, n)
		if e != want || e != api.OK && len(b) != 0 || e == api.OK && !bytes.Equal(b, told(m, n)) {
			t.Errorf("Part(%d) = %d bytes, %d", n, len(b), e)
		}
	}
	m.Additional[0].Type = api.ANY
	refuses(t, "a last record that may not be", m, api.ErrType)
}

// Bytes and Part held against the long way, by chance.

func TestBytesByChance(t *testing.T) {
	r := rand.New(rand.NewSource(10))
	for range 3000 {
		m := some(r, 16, 6)
		takes(t, "a message by chance", m)
		n := r.Intn(all(m) + 1)
		if b, e := message.Part(m, n); e != api.OK || !bytes.Equal(b, told(m, n)) {
			t.Fatalf("Part(%d) of %v = %q, %d", n, m, b, e)
		}
	}
	for range 20 {
		takes(t, "a great message by chance", some(r, 16, 170))
	}
	for range 200 {
		m := some(r, 16, 10)
		if len(m.Answer) > 0 {
			m.Answer[0].Type, m.Answer[0].Data = 99, api.Data{Raw: make([]byte, 16384-r.Intn(400))}
		}
		takes(t, "a message at the reach by chance", m)
	}
}

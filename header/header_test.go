package header_test

import (
	"bytes"
	"math"
	"math/rand"
	"reflect"
	"slices"
	"testing"

	"nomenclator/api"
	"nomenclator/header"
)

// sizes are numbers at and beyond the edges of an Opcode, an Rcode, a count, and of the kind int.
var sizes = []int{math.MinInt, math.MinInt + 1, math.MinInt32, -65536, -65535, -256, -16, -15, -2, -1, 0, 1, 2, 7, 8, 14, 15, 16, 17, 31, 32, 255, 256, 257, 65534, 65535, 65536, 65537, 131071, math.MaxInt32, math.MaxUint32, 1 << 40, 1 << 62, math.MaxInt - 1, math.MaxInt}

// setFlags names a head's flags as the document lays them: in which byte, of which weight.
var setFlags = []struct {
	name   string
	place  int
	weight byte
	at     func(m *api.Message) *bool
}{
	{"Response", 2, 128, func(m *api.Message) *bool { return &m.Response }},
	{"AA", 2, 4, func(m *api.Message) *bool { return &m.AA }},
	{"TC", 2, 2, func(m *api.Message) *bool { return &m.TC }},
	{"RD", 2, 1, func(m *api.Message) *bool { return &m.RD }},
	{"RA", 3, 128, func(m *api.Message) *bool { return &m.RA }},
	{"AD", 3, 32, func(m *api.Message) *bool { return &m.AD }},
	{"CD", 3, 16, func(m *api.Message) *bool { return &m.CD }},
}

// expect tells a head's bytes by sums of weights.
func expect(m api.Message, counts [4]int) []byte {
	b := make([]byte, 12)
	b[0], b[1] = byte(m.ID/256), byte(m.ID%256)
	b[2], b[3] = byte(m.Opcode*8), byte(m.Rcode)
	for _, f := range setFlags {
		if *f.at(&m) {
			b[f.place] += f.weight
		}
	}
	for i, n := range counts {
		b[4+2*i], b[5+2*i] = byte(n/256), byte(n%256)
	}
	return b
}

// known tells the message that twelve bytes are, by weights.
func known(b []byte) (api.Message, [4]int) {
	m := api.Message{ID: uint16(b[0])*256 + uint16(b[1]), Opcode: int(b[2]) / 8 % 16, Rcode: int(b[3]) % 16}
	for _, f := range setFlags {
		*f.at(&m) = b[f.place]/f.weight%2 == 1
	}
	var counts [4]int
	for i := range counts {
		counts[i] = int(b[4+2*i])*256 + int(b[5+2*i])
	}
	return m, counts
}

func checkBytes(t *testing.T, m api.Message, counts [4]int, want []byte) {
	t.Helper()
	if b, e := header.Bytes(m, counts); e != api.OK || !bytes.Equal(b, want) {
		t.Errorf("Bytes(%+v, %v) = %v, %d; want %v", m, counts, b, e, want)
	}
}

func checkRead(t *testing.T, b []byte, want api.Message, counts [4]int) {
	t.Helper()
	if m, c, e := header.Read(b); e != api.OK || c != counts || !reflect.DeepEqual(m, want) {
		t.Errorf("Read(%v) = %+v, %v, %d; want %+v, %v", b, m, c, e, want, counts)
	}
}

func refusesBytes(t *testing.T, m api.Message, counts [4]int) {
	t.Helper()
	if b, e := header.Bytes(m, counts); e != api.ErrArg || len(b) != 0 {
		t.Errorf("Bytes(%+v, %v) = %v, %d", m, counts, b, e)
	}
}

func refusesRead(t *testing.T, b []byte) {
	t.Helper()
	if m, c, e := header.Read(b); e != api.ErrBytes || c != [4]int{} || !reflect.DeepEqual(m, api.Message{}) {
		t.Errorf("Read(%v) = %+v, %v, %d", b, m, c, e)
	}
}

// P8.1: Bytes and Read, at heads that may be.

func TestHeads(t *testing.T) {
	for _, c := range []struct {
		m      api.Message
		counts [4]int
		b      []byte
	}{
		{api.Message{}, [4]int{}, []byte{0, 0, 0, 0, 0, 0, 0, 0, 0, 0, 0, 0}},
		{api.Message{ID: 258, Response: true, AA: true, RD: true, Rcode: 3}, [4]int{1, 0, 1, 0}, []byte{1, 2, 133, 3, 0, 1, 0, 0, 0, 1, 0, 0}},
		{api.Message{ID: 65535, Response: true, Opcode: 15, AA: true, TC: true, RD: true, RA: true, AD: true, CD: true, Rcode: 15}, [4]int{65535, 65535, 65535, 65535}, []byte{255, 255, 255, 191, 255, 255, 255, 255, 255, 255, 255, 255}},
		{api.Message{ID: 1}, [4]int{1, 2, 3, 4}, []byte{0, 1, 0, 0, 0, 1, 0, 2, 0, 3, 0, 4}},
		{api.Message{ID: 256, Opcode: 1}, [4]int{256, 512, 768, 1024}, []byte{1, 0, 8, 0, 1, 0, 2, 0, 3, 0, 4, 0}},
		{api.Message{Opcode: 15}, [4]int{}, []byte{0, 0, 120, 0, 0, 0, 0, 0, 0, 0, 0, 0}},
		{api.Message{Rcode: 15}, [4]int{}, []byte{0, 0, 0, 15, 0, 0, 0, 0, 0, 0, 0, 0}},
		{api.Message{RD: true, AD: true}, [4]int{1, 0, 0, 1}, []byte{0, 0, 1, 32, 0, 1, 0, 0, 0, 0, 0, 1}},
		{api.Message{Response: true, TC: true, RA: true, CD: true, Opcode: 4, Rcode: api.Refused}, [4]int{0, 258, 0, 772}, []byte{0, 0, 162, 149, 0, 0, 1, 2, 0, 0, 3, 4}},
	} {
		checkBytes(t, c.m, c.counts, c.b)
		checkRead(t, c.b, c.m, c.counts)
	}
}

func TestEachFlagAlone(t *testing.T) {
	for _, f := range setFlags {
		one, others := api.Message{}, api.Message{}
		*f.at(&one) = true
		for _, g := range setFlags {
			*g.at(&others) = g.name != f.name
		}
		b := make([]byte, 12)
		b[f.place] = f.weight
		checkBytes(t, one, [4]int{}, b)
		checkRead(t, b, one, [4]int{})
		b[2], b[3] = 135, 176
		b[f.place] -= f.weight
		checkBytes(t, others, [4]int{}, b)
		checkRead(t, b, others, [4]int{})
	}
}

func TestEveryID(t *testing.T) {
	for id := range 65536 {
		m, counts := api.Message{ID: uint16(id), RA: true}, [4]int{3, 0, 0, 9}
		b := expect(m, counts)
		checkBytes(t, m, counts, b)
		checkRead(t, b, m, counts)
	}
}

func TestEveryCount(t *testing.T) {
	for n := range 65536 {
		counts := [4]int{7, 7, 7, 7}
		counts[n%4] = n
		b := expect(api.Message{}, counts)
		checkBytes(t, api.Message{}, counts, b)
		checkRead(t, b, api.Message{}, counts)
	}
}

// The third and the fourth byte, all of them: what Read says, and what Bytes makes of it.
func TestEveryPairOfFlagBytes(t *testing.T) {
	for n := range 65536 {
		b := []byte{9, 8, byte(n >> 8), byte(n), 0, 1, 0, 2, 0, 3, 0, 4}
		if b[3]/64%2 == 1 {
			refusesRead(t, b)
			continue
		}
		m, counts := known(b)
		checkRead(t, b, m, counts)
		checkBytes(t, m, counts, b)
	}
}

// P8.1: what Bytes refuses.

func TestOpcodesAndRcodes(t *testing.T) {
	for _, op := range sizes {
		for _, code := range sizes {
			m := api.Message{ID: 5, RD: true, Opcode: op, Rcode: code}
			if 0 <= op && op <= 15 && 0 <= code && code <= 15 {
				checkBytes(t, m, [4]int{1}, expect(m, [4]int{1}))
			} else {
				refusesBytes(t, m, [4]int{1})
			}
		}
	}
}

func TestCountsAtEachPlace(t *testing.T) {
	for i := range 4 {
		for _, others := range []int{0, 1, 65535} {
			for _, n := range sizes {
				counts := [4]int{others, others, others, others}
				counts[i] = n
				if 0 <= n && n <= 65535 {
					checkBytes(t, api.Message{}, counts, expect(api.Message{}, counts))
				} else {
					refusesBytes(t, api.Message{}, counts)
				}
			}
		}
	}
}

func TestSeveralThingsWrong(t *testing.T) {
	for _, c := range []struct {
		m      api.Message
		counts [4]int
	}{
		{api.Message{Opcode: 16, Rcode: 16}, [4]int{65536, 65536, 65536, 65536}},
		{api.Message{Opcode: -1, Rcode: -1}, [4]int{-1, -1, -1, -1}},
		{api.Message{}, [4]int{-1, 65536, 0, 0}},
		{api.Message{}, [4]int{1, 1, -65536, 65536}},
		{api.Message{Opcode: 32}, [4]int{}},
		{api.Message{Rcode: 64}, [4]int{}},
		{api.Message{Rcode: 4095}, [4]int{}},
	} {
		refusesBytes(t, c.m, c.counts)
	}
}

// P8.1: a message's lists count for nothing.

func TestListsCountForNothing(t *testing.T) {
	m := api.Message{ID: 77, AA: true, Opcode: 2}
	full := m
	full.Questions = make([]api.Question, 3)
	full.Answer = make([]api.Record, 70000)
	full.Authority = []api.Record{{Owner: api.Name{""}, Type: api.A}}
	full.Additional = []api.Record{{}, {}}
	for _, counts := range [][4]int{{}, {1, 2, 3, 4}, {3, 65535, 1, 2}} {
		checkBytes(t, full, counts, expect(m, counts))
	}
	refusesBytes(t, full, [4]int{0, 65536, 0, 0})
	full.Opcode = 16
	refusesBytes(t, full, [4]int{})
}

// P8.1: how many bytes Read takes.

func TestReadByLength(t *testing.T) {
	b := make([]byte, 70000)
	for i := range b {
		b[i] = byte(i + 1)
	}
	b[3] = 191
	m, counts := known(b)
	for n := range 12 {
		refusesRead(t, b[:n])
		refusesRead(t, slices.Clip(b[:n]))
	}
	for _, n := range []int{12, 13, 14, 23, 24, 25, 255, 512, 65535, 65536, 70000} {
		checkRead(t, b[:n], m, counts)
	}
	refusesRead(t, nil)
	refusesRead(t, []byte{})
}

func TestReadLeavesTheRestAlone(t *testing.T) {
	head := []byte{0, 7, 1, 0, 0, 1, 0, 0, 0, 0, 0, 0}
	m, counts := known(head)
	for c := range 256 {
		checkRead(t, append(slices.Clone(head), byte(c)), m, counts)
		checkRead(t, append(slices.Clone(head), 0, 7, byte(c), byte(c), 255), m, counts)
	}
}

func TestTheBitThatIsNeverThere(t *testing.T) {
	for c := range 256 {
		b := []byte{1, 2, 3, byte(c), 0, 0, 0, 0, 0, 0, 0, 0}
		if c&64 != 0 {
			refusesRead(t, b)
			refusesRead(t, append(b, 9))
		} else {
			m, counts := known(b)
			checkRead(t, b, m, counts)
		}
		// Elsewhere that weight is a bit like all others.
		for _, i := range []int{0, 1, 2, 4, 5, 6, 7, 8, 9, 10, 11} {
			b := make([]byte, 12)
			b[i] = byte(c)
			m, counts := known(b)
			checkRead(t, b, m, counts)
		}
	}
	refusesRead(t, bytes.Repeat([]byte{255}, 12))
	refusesRead(t, []byte{0, 0, 0, 64})
}

// P8.3: what follows.

func TestFollows(t *testing.T) {
	r := rand.New(rand.NewSource(8))
	flip := func() bool { return r.Intn(2) == 0 }
	for range 20000 {
		m := api.Message{ID: uint16(r.Intn(65536)), Response: flip(), Opcode: r.Intn(16), AA: flip(), TC: flip(), RD: flip(), RA: flip(), AD: flip(), CD: flip(), Rcode: r.Intn(16)}
		counts := [4]int{r.Intn(65536), r.Intn(3), r.Intn(65536), 65535 - r.Intn(3)}
		b := expect(m, counts)
		checkBytes(t, m, counts, b)
		checkRead(t, b, m, counts)
	}
	for range 20000 {
		b := make([]byte, 12+r.Intn(4))
		r.Read(b)
		m, counts, e := header.Read(b)
		if (e == api.OK) != (b[3]/64%2 == 0) {
			t.Fatalf("Read(%v): %d", b, e)
		}
		if e == api.OK {
			checkBytes(t, m, counts, b[:12])
		}
	}
}

// Rule 4: an answer is new memory, nothing that was handed in is changed or kept.

func TestBytesIsNewMemory(t *testing.T) {
	m, counts := api.Message{ID: 258, AA: true, Questions: []api.Question{{Name: api.Name{"a"}}}}, [4]int{1, 2, 3, 4}
	one, _ := header.Bytes(m, counts)
	two, _ := header.Bytes(m, counts)
	for i := range one[:cap(one)] {
		one[:cap(one)][i] = 99
	}
	_ = append(one, 98, 98, 98)
	if !bytes.Equal(two, expect(m, counts)) {
		t.Error("two answers share memory:", two)
	}
	checkBytes(t, m, counts, expect(m, counts))
	if counts != [4]int{1, 2, 3, 4} || len(m.Questions) != 1 || m.Questions[0].Name[0] != "a" {
		t.Error("what was handed in is changed")
	}
}

func TestReadKeepsNothing(t *testing.T) {
	whole := []byte{1, 2, 133, 3, 0, 1, 0, 0, 0, 1, 0, 0, 66, 67, 68}
	was := slices.Clone(whole)
	m, counts, _ := header.Read(whole[:12])
	if !bytes.Equal(whole, was) {
		t.Error("what was handed in is changed:", whole)
	}
	for i := range whole {
		whole[i] = 0
	}
	if want, c := known(was); !reflect.DeepEqual(m, want) || counts != c {
		t.Error("what was told hangs on what was handed in:", m, counts)
	}
	if len(m.Questions)+len(m.Answer)+len(m.Authority)+len(m.Additional) != 0 {
		t.Error("there are lists:", m)
	}
	m.ID, counts[0] = 0, 9
	checkRead(t, was, api.Message{ID: 258, Response: true, AA: true, RD: true, Rcode: 3}, [4]int{1, 0, 1, 0})
}

func FuzzRead(f *testing.F) {
	f.Add([]byte{1, 2, 133, 3, 0, 1, 0, 0, 0, 1, 0, 0})
	f.Add([]byte{0, 0, 0, 64, 0, 0, 0, 0, 0, 0, 0, 0})
	f.Add([]byte{0, 0, 0})
	f.Fuzz(func(t *testing.T, b []byte) {
		m, counts, e := header.Read(b)
		if len(b) < 12 || b[3]/64%2 == 1 {
			if e != api.ErrBytes {
				t.Fatal(e)
			}
			return
		}
		if w, e := header.Bytes(m, counts); e != api.OK || !bytes.Equal(w, b[:12]) {
			t.Fatal(w, e)
		}
	})
}

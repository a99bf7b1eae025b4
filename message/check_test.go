package message_test

import (
	"math"
	"slices"
	"strings"
	"testing"

	"nomenclator/api"
	"nomenclator/message"
)

var x = strings.Repeat("x", 64)

// badNames are names that may not be, with the fault of each.
var badNames = []struct {
	n    api.Name
	want api.Errno
}{
	{api.Name{""}, api.ErrLabel},
	{api.Name{"a", ""}, api.ErrLabel},
	{api.Name{"", "a"}, api.ErrLabel},
	{api.Name{x}, api.ErrLabel},
	{api.Name{"a", x}, api.ErrLabel},
	{api.Name{x[:63], x[:63], x[:63], x[:62]}, api.ErrName},
	{slices.Repeat(api.Name{"a"}, 128), api.ErrName},
	{append(slices.Repeat(api.Name{"a"}, 128), ""), api.ErrLabel},
}

// badData are data that are not of their type, with the fault of each.
var badData = []struct {
	t    api.Type
	d    api.Data
	want api.Errno
}{
	{0, raw(1), api.ErrType}, {0, api.Data{}, api.ErrType}, {128, raw(1), api.ErrType}, {200, raw(1), api.ErrType}, {252, api.Data{}, api.ErrType}, {api.ANY, raw(1), api.ErrType}, {api.ANY, host("a."), api.ErrType},
	{api.A, raw(1, 2, 3), api.ErrData}, {api.A, api.Data{}, api.ErrData}, {api.A, raw(1, 2, 3, 4, 5), api.ErrData}, {api.AAAA, raw(1, 2, 3, 4), api.ErrData}, {api.A, host("a."), api.ErrData},
	{api.NS, api.Data{}, api.ErrData}, {api.NS, api.Data{Names: names("a.", "b.")}, api.ErrData}, {api.NS, raw(0), api.ErrData}, {api.CNAME, mx(1, "a."), api.ErrData}, {api.SOA, host("a."), api.ErrData}, {api.SOA, api.Data{Names: names("a.", "b."), Nums: []uint32{1, 2, 3, 4}}, api.ErrData}, {api.MX, host("a."), api.ErrData}, {api.MX, mx(65536, "a."), api.ErrData}, {api.SRV, mx(1, "a."), api.ErrData}, {api.SRV, api.Data{Nums: []uint32{1, 2, 65536}, Names: names("a.")}, api.ErrData},
	{api.TXT, api.Data{}, api.ErrData}, {api.TXT, api.Data{Texts: []string{strings.Repeat("a", 256)}}, api.ErrData}, {api.CAA, api.Data{Nums: []uint32{256}, Texts: []string{"a", "b"}}, api.ErrData}, {api.CAA, api.Data{Nums: []uint32{1}, Texts: []string{"a-", "b"}}, api.ErrData}, {99, host("a."), api.ErrData}, {api.OPT, api.Data{Nums: []uint32{1}}, api.ErrData},
	{api.NS, api.Data{Names: []api.Name{{""}}}, api.ErrLabel}, {api.MX, api.Data{Nums: []uint32{1}, Names: []api.Name{{x}}}, api.ErrLabel}, {api.SRV, api.Data{Nums: []uint32{1, 2, 3}, Names: []api.Name{slices.Repeat(api.Name{"a"}, 128)}}, api.ErrName}, {api.SOA, api.Data{Names: []api.Name{slices.Repeat(api.Name{"a"}, 128), {""}}, Nums: make([]uint32, 5)}, api.ErrName}, {api.SOA, api.Data{Names: []api.Name{{""}, slices.Repeat(api.Name{"a"}, 128)}, Nums: make([]uint32, 5)}, api.ErrLabel},
	{99, api.Data{Raw: make([]byte, 65536)}, api.ErrLong}, {api.TXT, api.Data{Texts: make([]string, 65536)}, api.ErrLong},
}

// refuses tells that Check, Bytes and Part all answer an error, and nothing besides.
func refuses(t *testing.T, title string, m api.Message, want api.Errno) {
	t.Helper()
	if e := message.Check(m); e != want {
		t.Errorf("%s: Check = %d, not %d", title, e, want)
	}
	if b, e := message.Bytes(m); e != want || len(b) != 0 {
		t.Errorf("%s: Bytes = %d bytes, %d, not %d", title, len(b), e, want)
	}
	for _, n := range []int{-1, 0, 1, all(m), all(m) + 1} {
		if b, e := message.Part(m, n); e != want || len(b) != 0 {
			t.Errorf("%s: Part(%d) = %d bytes, %d, not %d", title, n, len(b), e, want)
		}
	}
}

// takes tells that a message may be written, and is written as it should be.
func takes(t *testing.T, title string, m api.Message) {
	t.Helper()
	if e := message.Check(m); e != api.OK {
		t.Errorf("%s: Check = %d", title, e)
	}
	want := told(m, all(m))
	if b, e := message.Bytes(m); e != api.OK || !slices.Equal(b, want) {
		t.Errorf("%s: Bytes = %d\n%q, not\n%q", title, e, b, want)
	}
	if got, e := message.Read(want); e != api.OK || !alike(got, m) {
		t.Errorf("%s: Read(%q) = %v, %d, not %v", title, want, got, e, m)
	}
}

// P10.1: what the head may say.

func TestOpcodesAndRcodes(t *testing.T) {
	edges := []int{math.MinInt, -256, -16, -1, 0, 1, 8, 14, 15, 16, 17, 31, 32, 256, 65536, math.MaxInt}
	for _, op := range edges {
		for _, code := range edges {
			m := api.Message{ID: 5, Opcode: op, Rcode: code, Questions: []api.Question{ask("a.")}}
			if 0 <= op && op <= 15 && 0 <= code && code <= 15 {
				takes(t, "a head", m)
			} else {
				refuses(t, "a head", m, api.ErrArg)
			}
		}
	}
}

func TestEachFlag(t *testing.T) {
	m := api.Message{}
	for _, f := range []*bool{&m.Response, &m.AA, &m.TC, &m.RD, &m.RA, &m.AD, &m.CD} {
		*f = true
		takes(t, "a flag", m)
		*f = false
	}
}

// P10.1: how much there may be.

func TestHowManyQuestions(t *testing.T) {
	for _, n := range []int{0, 1, 2, 15, 16, 17, 18, 100, 65536} {
		m := api.Message{Questions: slices.Repeat([]api.Question{ask("a.")}, n)}
		if n <= 16 {
			takes(t, "questions", m)
		} else {
			refuses(t, "questions", m, api.ErrLong)
		}
	}
}

func TestHowManyRecords(t *testing.T) {
	for _, c := range [][3]int{
		{0, 0, 0}, {1, 0, 0}, {0, 1, 0}, {0, 0, 1}, {511, 0, 0}, {512, 0, 0}, {0, 512, 0}, {0, 0, 512}, {170, 171, 171}, {256, 256, 0}, {0, 511, 1}, {1, 0, 511}, {510, 1, 1},
		{513, 0, 0}, {0, 513, 0}, {0, 0, 513}, {171, 171, 171}, {256, 257, 0}, {512, 0, 1}, {1, 512, 0}, {0, 1, 512}, {512, 512, 512}, {65536, 0, 0}, {0, 0, 66048},
	} {
		l := func(n int) []api.Record { return slices.Repeat([]api.Record{rec("a.", api.A, raw(1, 2, 3, 4))}, n) }
		m := api.Message{Questions: []api.Question{ask("a.")}, Answer: l(c[0]), Authority: l(c[1]), Additional: l(c[2])}
		if c[0]+c[1]+c[2] <= 512 {
			takes(t, "records", m)
		} else {
			refuses(t, "records", m, api.ErrLong)
		}
	}
	refuses(t, "records without anything", api.Message{Answer: make([]api.Record, 513)}, api.ErrLong)
	refuses(t, "records without anything", api.Message{Answer: make([]api.Record, 512)}, api.ErrType)
}

// P10.1: names and data that may not be.

func TestBadQuestions(t *testing.T) {
	for _, c := range badNames {
		for _, at := range []int{0, 1, 15} {
			m := api.Message{Questions: slices.Repeat([]api.Question{ask("a.")}, 16)}
			m.Questions[at].Name = c.n
			refuses(t, "a question", m, c.want)
		}
	}
	for _, typ := range []api.Type{0, 1, 41, 128, 252, 255, 65535} {
		for _, c := range []api.Class{0, 1, 3, 255, 65535} {
			takes(t, "a question of any kind", api.Message{Questions: []api.Question{{Name: of("a."), Type: typ, Class: c}}})
		}
	}
}

// each goes over messages with a record at each end of each list.
func each(r api.Record, f func(api.Message)) {
	for i := range 3 {
		for _, at := range []int{0, 1, 2} {
			m := api.Message{ID: 1, Questions: []api.Question{ask("a.")}}
			for j, l := range []*[]api.Record{&m.Answer, &m.Authority, &m.Additional} {
				*l = slices.Repeat([]api.Record{rec("a.", api.NS, host("a."))}, 3)
				if i == j {
					(*l)[at] = r
				}
			}
			f(m)
		}
	}
}

func TestBadOwners(t *testing.T) {
	for _, c := range badNames {
		for typ, d := range one() {
			each(api.Record{Owner: c.n, Type: typ, Data: d}, func(m api.Message) { refuses(t, "an owner", m, c.want) })
		}
	}
}

func TestBadData(t *testing.T) {
	for _, c := range badData {
		each(rec("a.", c.t, c.d), func(m api.Message) { refuses(t, "data", m, c.want) })
	}
}

func TestGoodData(t *testing.T) {
	for typ, d := range one() {
		each(rec("a.", typ, d), func(m api.Message) { takes(t, "data", m) })
	}
	for _, class := range []api.Class{0, 1, 254, 255, 65535} {
		for _, ttl := range []uint32{0, 1, 604800, 604801, 1 << 31, math.MaxUint32} {
			r := rec("a.", api.A, raw(1, 2, 3, 4))
			r.Class, r.TTL = class, ttl
			each(r, func(m api.Message) { takes(t, "any class and TTL", m) })
		}
	}
}

// P10.1, rule 1: which error comes first where there are several.

func TestTheFirstFault(t *testing.T) {
	type fault struct {
		name string
		do   func(*api.Message)
		want api.Errno
	}
	tooLong := slices.Repeat(api.Name{"a"}, 128)
	short := func(l *[]api.Record) func(*api.Message) {
		return func(*api.Message) {
			if len(*l) > 2 {
				return
			}
			*l = append(*l, slices.Repeat([]api.Record{rec("a.", api.A, raw(1, 2, 3, 4))}, 513)...)
		}
	}
	m := &api.Message{}
	faults := []fault{
		{"Opcode", func(m *api.Message) { m.Opcode = 16 }, api.ErrArg},
		{"Rcode", func(m *api.Message) { m.Rcode = -1 }, api.ErrArg},
		{"questions", func(m *api.Message) { m.Questions = append(m.Questions, make([]api.Question, 16)...) }, api.ErrLong},
		{"records", short(&m.Additional), api.ErrLong},
		{"question 0", func(m *api.Message) { m.Questions[0].Name = tooLong }, api.ErrName},
		{"question 1", func(m *api.Message) { m.Questions[1].Name = api.Name{""} }, api.ErrLabel},
		{"answer 0, owner", func(m *api.Message) { m.Answer[0].Owner = tooLong }, api.ErrName},
		{"answer 0, data", func(m *api.Message) { m.Answer[0].Data = raw(1) }, api.ErrData},
		{"answer 1, owner", func(m *api.Message) { m.Answer[1].Owner = api.Name{""} }, api.ErrLabel},
		{"answer 1, type", func(m *api.Message) { m.Answer[1].Type = api.ANY }, api.ErrType},
		{"answer 1, data", func(m *api.Message) { m.Answer[1].Data.Nums = []uint32{1} }, api.ErrData},
		{"authority 0, owner", func(m *api.Message) { m.Authority[0].Owner = tooLong }, api.ErrName},
		{"authority 0, data", func(m *api.Message) { m.Authority[0].Data.Names[0] = api.Name{""} }, api.ErrLabel},
		{"authority 1, type", func(m *api.Message) { m.Authority[1].Type = 0 }, api.ErrType},
		{"additional 0, data", func(m *api.Message) { m.Additional[0].Data = api.Data{} }, api.ErrData},
		{"additional 1, owner", func(m *api.Message) { m.Additional[1].Owner = api.Name{x} }, api.ErrLabel},
		{"additional 1, data", func(m *api.Message) {
			m.Additional[1].Type, m.Additional[1].Data = 99, api.Data{Raw: make([]byte, 65536)}
		}, api.ErrLong},
	}
	for i, f := range faults {
		for j, g := range faults[i:] {
			l := func() []api.Record { return []api.Record{rec("a.", api.NS, host("b.")), rec("c.", api.NS, host("d."))} }
			*m = api.Message{Questions: []api.Question{ask("a."), ask("b.")}, Answer: l(), Authority: l(), Additional: l()}
			takes(t, "without a fault", *m)
			g.do(m)
			f.do(m)
			refuses(t, f.name+" and "+g.name, *m, f.want)
			for _, h := range faults[i+j:] {
				h.do(m)
			}
			refuses(t, f.name+" and all from "+g.name+" on", *m, f.want)
		}
	}
}

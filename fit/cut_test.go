package fit_test

import (
	"fmt"
	"math"
	"math/rand"
	"slices"
	"strings"
	"testing"

	"nomenclator/api"
	"nomenclator/fit"
	"nomenclator/message"
)

// P12.2: Cut and Bytes.

// example is the chapter's message.
func example() api.Message {
	return api.Message{Questions: []api.Question{ask("a.")}, Answer: list(addr("a.", 1), addr("a.", 2)), Authority: list(rec("b.", api.NS, host("c."))), Additional: list(addr("d.", 3))}
}

func TestTheChaptersExamples(t *testing.T) {
	m := example()
	counts(t, "the chapter's", m, 2, 1, 1)
	if b, e := fit.Bytes(m, 84); e != api.OK || len(b) != 84 {
		t.Errorf("Bytes of 84 = %d, %d", len(b), e)
	}
	cuts(t, "whole", m, 84, m)
	short := m
	short.Additional = nil
	cuts(t, "without d.", m, 83, short)
	cuts(t, "without d.", m, 67, short)
	short.Authority, short.TC = nil, true
	cuts(t, "the answer alone", m, 66, short)
	cuts(t, "the answer alone", m, 51, short)
	short.Answer = nil
	cuts(t, "no sets", m, 50, short)
	cuts(t, "no sets", m, 19, short)
	refuses(t, "too short", m, 18, api.ErrLong)
	holds(t, "the chapter's", m)
}

// Nothing but a head has twelve bytes, with which it fits.
func TestAHeadAlone(t *testing.T) {
	for _, m := range []api.Message{
		{},
		{Questions: []api.Question{}, Answer: list(), Authority: list(), Additional: list()},
		{ID: 7, Response: true, Opcode: 15, AA: true, TC: true, RD: true, RA: true, AD: true, CD: true, Rcode: 15},
	} {
		for _, size := range []int{math.MinInt, -1, 0, 1, 11} {
			refuses(t, "a head", m, size, api.ErrLong)
		}
		for _, size := range []int{12, 13, 512, 65535, 65536, math.MaxInt} {
			cuts(t, "a head", m, size, m)
		}
	}
	m := api.Message{Answer: list(addr(".", 1))}
	cuts(t, "a head is left", m, 12, api.Message{TC: true})
	cuts(t, "a head is left", m, 26, api.Message{TC: true})
	cuts(t, "it has 27 bytes", m, 27, m)
	refuses(t, "not even a head", m, 11, api.ErrLong)
}

// Questions stay, whatever is cut.
func TestQuestionsAreNeverLeftOut(t *testing.T) {
	m := api.Message{ID: 9, Answer: list(addr("a.", 1))}
	for i := range 16 {
		m.Questions = append(m.Questions, ask(fmt.Sprint("a", i, ".b.")))
		holds(t, "questions", m)
	}
	n := slices.Repeat(api.Name{"a"}, 127)
	for i := range m.Questions {
		m.Questions[i].Name = slices.Concat(api.Name{string(rune('b' + i))}, n[1:])
	}
	holds(t, "long questions", m)
}

// What is told of the head and the questions is as it was: all but TC.
func TestTheHeadStays(t *testing.T) {
	m := example()
	m.ID, m.Response, m.Opcode, m.AA, m.RD, m.RA, m.AD, m.CD, m.Rcode = 258, true, 4, true, true, true, true, true, 3
	short := m
	short.Answer, short.Authority, short.Additional, short.TC = nil, nil, nil, true
	cuts(t, "a full head", m, 19, short)
	holds(t, "a full head", m)
	for i := range 8 {
		m := example()
		*[]*bool{&m.Response, &m.AA, &m.TC, &m.RD, &m.RA, &m.AD, &m.CD, new(bool)}[i] = true
		holds(t, "a flag", m)
	}
}

// TC says that a set of the answer or the authority is missing, or what it said.
func TestTC(t *testing.T) {
	a, b, c, o := addr("a.", 1), addr("b.", 1), addr("c.", 1), opt(1232)
	for _, was := range []bool{false, true} {
		for title, x := range map[string]struct {
			m    api.Message
			sets int
			want bool
		}{
			"nothing missing":                     {api.Message{Answer: list(a), Authority: list(b), Additional: list(c)}, 3, was},
			"an additional one missing":           {api.Message{Answer: list(a), Authority: list(b), Additional: list(c)}, 2, was},
			"the authority missing":               {api.Message{Answer: list(a), Authority: list(b), Additional: list(c)}, 1, true},
			"the answer missing, too":             {api.Message{Answer: list(a), Authority: list(b), Additional: list(c)}, 0, true},
			"half the answer":                     {api.Message{Answer: list(a, b), Authority: list(c)}, 1, true},
			"half the authority":                  {api.Message{Answer: list(a), Authority: list(b, c)}, 2, true},
			"the last of the authority alone":     {api.Message{Authority: list(b, c), Additional: list(a)}, 1, true},
			"the last of the answer alone":        {api.Message{Answer: list(b, c), Additional: list(a)}, 1, true},
			"no answer and no authority":          {api.Message{Additional: list(a, b, c)}, 0, was},
			"half the additional ones":            {api.Message{Answer: list(a), Additional: list(a, b, c)}, 2, was},
			"all additional ones but the saying":  {api.Message{Answer: list(a), Additional: list(b, o, c)}, 1, was},
			"the answer, but not the saying one":  {api.Message{Answer: list(a), Additional: list(b, o, c)}, 0, true},
			"a second additional OPT missing":     {api.Message{Answer: list(a), Additional: list(o, o)}, 1, was},
			"OPT missing in the answer":           {api.Message{Answer: list(a, o)}, 1, true},
			"OPT missing in the authority":        {api.Message{Answer: list(a), Authority: list(o), Additional: list(o)}, 1, true},
			"nothing missing, the saying at last": {api.Message{Answer: list(a), Authority: list(b), Additional: list(o)}, 2, was},
		} {
			x.m.TC = was
			short := cutTo(x.m, x.sets)
			short.TC = x.want
			cuts(t, title, x.m, sizes(x.m)[x.sets], short)
		}
	}
}

// Sets are whole or not there, however great they are; a small one behind one that is missing is missing, too.
func TestWholeSets(t *testing.T) {
	big := []api.Record{rec("a.", 99, room(100)), rec("A.", 99, room(100)), rec("a.", 99, room(100))}
	m := api.Message{Answer: slices.Concat(list(addr("b.", 1)), big, list(addr("c.", 1))), Authority: list(addr("d.", 1)), Additional: list(addr("e.", 1))}
	short := m
	short.TC, short.Answer, short.Authority, short.Additional = true, m.Answer[:1], nil, nil
	for _, size := range []int{29, 30, 100, 141, 254, 300, sizes(m)[2] - 1} {
		cuts(t, "a set of three", m, size, short)
	}
	short.Answer = m.Answer[:4]
	cuts(t, "a set of three", m, sizes(m)[2], short)
	holds(t, "a set of three", m)
	holds(t, "one set of 512", api.Message{Answer: slices.Repeat(list(addr("a.", 1)), 512)})
	holds(t, "a set over two lists", api.Message{Answer: list(addr("a.", 1), addr("a.", 2)), Authority: list(addr("A.", 1), addr("a.", 2)), Additional: list(addr("a.", 1), addr("A.", 2))})
}

// The saying record stands where it stood among those that are left.
func TestTheSayingRecordStays(t *testing.T) {
	o := opt(1232, 1, 2, 3)
	l := list(addr("a.", 1), addr("a.", 2), addr("b.", 1), addr("c.", 1), addr("c.", 2), addr("c.", 3))
	for at := range len(l) + 1 {
		for _, opts := range [][]api.Record{{o}, {o, o}, {o, opt(7), opt(7)}} {
			m := beside(slices.Insert(slices.Clone(l), at, opts...)...)
			holds(t, fmt.Sprint("the saying record at ", at), m)
			m.Answer, m.Authority = list(addr("a.", 1)), list(o, o)
			holds(t, fmt.Sprint("the saying record at ", at, ", others ahead"), m)
		}
	}
	m := beside(l[0], o, l[1], l[2])
	cuts(t, "no sets", m, 26, beside(o))
	refuses(t, "no sets", m, 25, api.ErrLong)
	cuts(t, "not the first run alone", m, 26+17+15, beside(o))
	cuts(t, "in the midst of the first run", m, 26+17+16, beside(l[0], o, l[1]))
	cuts(t, "alone", beside(o), 26, beside(o))
	refuses(t, "alone", beside(o), 25, api.ErrLong)
}

// A second record of the type OPT is a set's like any other, and so is each of the other lists.
func TestOtherOPTsAreLeftOut(t *testing.T) {
	o, p := opt(1), opt(2)
	cuts(t, "a second one", beside(o, p, p), 23, beside(o))
	cuts(t, "a second one", beside(o, p, p), 44, beside(o))
	cuts(t, "a second and a third", beside(o, p, p), 45, beside(o, p, p))
	cuts(t, "in the answer", api.Message{Answer: list(o)}, 22, api.Message{TC: true})
	cuts(t, "in the authority", api.Message{Authority: list(o), Additional: list(p)}, 33, api.Message{TC: true, Additional: list(p)})
}

// The saying record's owner points back into what is left; still each set more makes more bytes.
func TestTheSayingRecordsOwner(t *testing.T) {
	long := strings.Repeat("y", 60) + "."
	deep := strings.Repeat("a.", 90)
	for _, owner := range []string{".", "a.", "b.a.", long, "b." + long, deep, "b." + deep, deep + long} {
		o := rec(owner, api.OPT, raw(7))
		for _, other := range []string{".", "a.", long, deep, "c." + long, deep + long, owner} {
			for _, r := range []api.Record{addr(other, 1), rec(".", api.NS, host(other)), rec("z.", api.MX, api.Data{Nums: []uint32{1}, Names: []api.Name{of(other)}}), rec(".", api.SRV, api.Data{Nums: make([]uint32, 3), Names: []api.Name{of(other)}}), rec(other, api.SOA, api.Data{Nums: make([]uint32, 5), Names: []api.Name{of(other), of(owner)}})} {
				for _, m := range []api.Message{beside(r, o), beside(o, r), beside(r, o, r, addr("z.", 1)), {Answer: list(r), Additional: list(o)}, {Authority: list(r, addr(owner, 1)), Additional: list(addr(other, 2), o)}} {
					holds(t, "an owner", m)
				}
			}
		}
	}
}

// Where names can't be pointed to any more, nothing changes.
func TestTheReachOfPointers(t *testing.T) {
	for fill := 16384 - 60; fill < 16384; fill++ {
		m := api.Message{Answer: list(rec(".", 99, room(fill)), addr("a.b.", 1), rec("c.", api.NS, host("a.b."))), Additional: list(addr("b.", 1), rec("a.b.", api.OPT, raw()), addr("a.b.", 1))}
		if got, want := fit.Sets(m), []int{1, 1, 1, 1, 1}; !slices.Equal(got, want) {
			t.Fatalf("Sets = %v", got)
		}
		for n, size := range sizes(m) {
			cuts(t, "at the reach", m, size, cutTo(m, n))
			if n > 0 {
				cuts(t, "at the reach", m, size-1, cutTo(m, n-1))
			}
		}
	}
}

// P12.2: no message has more than 65,535 bytes, however great the size is.

func TestLongMessages(t *testing.T) {
	// A head, and a record of the root: 23 bytes beside the data.
	for _, c := range []struct {
		title string
		m     api.Message
		sets  int
	}{
		{"65,535 bytes", api.Message{Answer: list(rec(".", 99, room(65512)))}, 1},
		{"65,536 bytes", api.Message{Answer: list(rec(".", 99, room(65513)))}, 0},
		{"65,536 bytes, additional", beside(rec(".", 99, room(65513))), 0},
		{"the longest data", api.Message{Authority: list(rec(".", 99, room(65535)))}, 0},
		{"two of half", api.Message{Answer: list(rec("a.", 99, room(30000))), Authority: list(rec("b.", 99, room(30000)))}, 2},
		{"two of more than half", api.Message{Answer: list(rec("a.", 99, room(40000))), Authority: list(rec("b.", 99, room(40000)))}, 1},
		{"one set of more", api.Message{Answer: list(rec("a.", 99, room(40000)), rec("a.", 99, room(40000)), addr("b.", 1))}, 0},
		{"512 of the longest", api.Message{Answer: list(addr("a.", 1)), Additional: slices.Repeat(list(rec("a.", 99, room(65535))), 511)}, 1},
		{"room for no more than the saying record", api.Message{Answer: list(addr(".", 1)), Additional: list(rec(".", api.OPT, room(65512)))}, 0},
		{"65,535 bytes with the saying record", api.Message{Answer: list(addr(".", 1)), Additional: list(rec(".", api.OPT, room(65512-15)))}, 1},
		{"65,536 bytes with the saying record", api.Message{Answer: list(addr(".", 1)), Additional: list(rec(".", api.OPT, room(65513-15)))}, 0},
	} {
		for _, size := range []int{65535, 65536, 65537, 100000, 1 << 31, math.MaxInt} {
			cuts(t, c.title, c.m, size, cutTo(c.m, c.sets))
		}
		holds(t, c.title, c.m)
	}
}

// Cut to no sets they may have too many bytes still: the saying record is never left out.
func TestNoSetsThatAreTooLong(t *testing.T) {
	for title, m := range map[string]api.Message{
		"65,536 bytes":          beside(rec(".", api.OPT, room(65513))),
		"the longest data":      beside(rec(".", api.OPT, room(65535))),
		"sets besides":          {Answer: list(addr("a.", 1)), Additional: list(addr("a.", 1), rec(".", api.OPT, room(65513)), addr("b.", 1))},
		"by a question":         {Questions: []api.Question{ask(".")}, Additional: list(rec(".", api.OPT, room(65508)))},
		"by 16 questions":       {Questions: slices.Repeat([]api.Question{ask(".")}, 16), Additional: list(rec(".", api.OPT, room(65433)))},
		"by the saying's owner": {Additional: list(rec("a.", api.OPT, room(65511)))},
	} {
		if e := message.Check(m); e != api.OK {
			t.Fatalf("%s: Check = %d", title, e)
		}
		for _, size := range edges {
			refuses(t, title, m, size, api.ErrLong)
		}
	}
	// Saved by a pointer to the question, it is just short enough.
	m := api.Message{Questions: []api.Question{ask("a.b.c.")}, Answer: list(addr(".", 1)), Additional: list(rec("a.b.c.", api.OPT, raw()))}
	m.Additional[0].Data = room(65535 - 12 - 11 - 12)
	cuts(t, "65,535 bytes", m, 65535, cutTo(m, 0))
	cuts(t, "65,535 bytes", m, math.MaxInt, cutTo(m, 0))
	refuses(t, "65,535 bytes", m, 65534, api.ErrLong)
	m.Additional[0].Data = room(65535 - 12 - 11 - 11)
	refuses(t, "65,536 bytes", m, math.MaxInt, api.ErrLong)
}

// P12.2, rule 1: message.Check's error comes ahead of ErrLong, whatever the size is, and whether or not what is wrong were cut.
func TestMessagesThatMayNotBe(t *testing.T) {
	any := rec("a.", api.ANY, raw(1))
	label := api.Record{Owner: api.Name{""}, Type: api.A, Data: raw(1, 2, 3, 4)}
	for title, c := range map[string]struct {
		m    api.Message
		want api.Errno
	}{
		"an Opcode":              {api.Message{Opcode: 16}, api.ErrArg},
		"an Opcode below 0":      {api.Message{Opcode: -1}, api.ErrArg},
		"an Rcode":               {api.Message{Rcode: 16}, api.ErrArg},
		"an Rcode below 0":       {api.Message{Rcode: math.MinInt}, api.ErrArg},
		"17 questions":           {api.Message{Questions: make([]api.Question, 17)}, api.ErrLong},
		"513 records":            {api.Message{Answer: slices.Repeat(list(addr("a.", 1)), 513)}, api.ErrLong},
		"513 in three lists":     {api.Message{Answer: slices.Repeat(list(addr("a.", 1)), 200), Authority: slices.Repeat(list(addr("a.", 1)), 200), Additional: slices.Repeat(list(opt(1)), 113)}, api.ErrLong},
		"a question's label":     {api.Message{Questions: []api.Question{{Name: api.Name{""}}}}, api.ErrLabel},
		"a question's name":      {api.Message{Questions: []api.Question{{Name: slices.Repeat(api.Name{"a"}, 128)}}}, api.ErrName},
		"a type":                 {api.Message{Answer: list(any)}, api.ErrType},
		"a type in the last":     {api.Message{Answer: list(addr("a.", 1)), Additional: list(addr("a.", 1), opt(1), any)}, api.ErrType},
		"an owner":               {api.Message{Authority: list(label)}, api.ErrLabel},
		"an owner's length":      {api.Message{Authority: []api.Record{{Owner: slices.Repeat(api.Name{"a"}, 128), Type: api.OPT}}}, api.ErrName},
		"data":                   {api.Message{Additional: list(rec("a.", api.A, raw(1)))}, api.ErrData},
		"data that are too long": {api.Message{Additional: list(rec("a.", 99, room(65536)))}, api.ErrLong},
		"the saying record":      {api.Message{Additional: list(rec("a.", api.OPT, host("a.")))}, api.ErrData},
		"two things":             {api.Message{Rcode: 16, Answer: list(any)}, api.ErrArg},
		"two records":            {api.Message{Answer: list(label), Authority: list(any)}, api.ErrLabel},
		"behind much":            {api.Message{Answer: slices.Repeat(list(rec(".", 99, room(65535))), 5), Additional: list(any)}, api.ErrType},
		"behind a long OPT":      {api.Message{Additional: list(rec(".", api.OPT, room(65535)), label)}, api.ErrLabel},
	} {
		if e := message.Check(c.m); e != c.want {
			t.Fatalf("%s: Check = %d", title, e)
		}
		for _, size := range edges {
			refuses(t, title, c.m, size, c.want)
		}
	}
}

// Messages of as many records as may be.
func TestManyRecords(t *testing.T) {
	var l []api.Record
	for i := range 512 {
		l = append(l, addr(fmt.Sprint("n", i/2, ".a."), byte(i)))
	}
	m := api.Message{Answer: l[:200], Authority: l[200:300], Additional: slices.Insert(slices.Clone(l[300:511]), 77, opt(1232))}
	bytes := sizes(m)
	for _, n := range []int{0, 1, 2, 99, 100, 101, 149, 150, 151, 188, 189, 190, 254, 255} {
		cuts(t, "many", m, bytes[n], cutTo(m, n))
		cuts(t, "many", m, bytes[n+1]-1, cutTo(m, n))
	}
	cuts(t, "all", m, bytes[len(bytes)-1], m)
	counts(t, "all", m, fit.Sets(cutTo(m, 256))...)
}

// All calls held against the chapter's words, by chance.
func TestByChance(t *testing.T) {
	r := rand.New(rand.NewSource(122))
	for range 400 {
		m := some(r, 6)
		holds(t, brief(m), m)
	}
	for range 50 {
		m := some(r, 4)
		for _, l := range lists(&m) {
			*l = append(*l, rec("f.", 99, room(r.Intn(40000))))
		}
		holds(t, brief(m), m)
	}
}

// At each size, from none up to more than all.
func TestEachSize(t *testing.T) {
	r := rand.New(rand.NewSource(123))
	for range 30 {
		m := some(r, 3)
		bytes := sizes(m)
		for size := -1; size <= bytes[len(bytes)-1]+2; size++ {
			if n := setsFor(bytes, size); n >= 0 {
				cuts(t, brief(m), m, size, cutTo(m, n))
			} else {
				refuses(t, brief(m), m, size, api.ErrLong)
			}
		}
	}
}

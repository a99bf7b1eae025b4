package edns_test

import (
	"fmt"
	"math"
	"math/rand"
	"slices"
	"testing"

	"nomenclator/api"
	"nomenclator/edns"
	"nomenclator/message"
)

// with tells a message with these additional records.
func with(l ...api.Record) api.Message { return api.Message{ID: 7, RD: true, Additional: l} }

func tells(t *testing.T, title string, m api.Message, want api.Edns, there bool, err api.Errno) {
	t.Helper()
	if e, ok, got := edns.Of(m); got != err || ok != there || !alike(e, want) {
		t.Errorf("%s: Of = %s, %v, %d, not %s, %v, %d", title, brief(e), ok, got, brief(want), there, err)
	}
}

// good says something, bad nothing; both are of the type OPT.
var (
	good     = opt(1232, 0x01028000, 0, 10, 0, 1, 7)
	said1232 = api.Edns{Size: 1232, High: 1, Version: 2, DO: true, Options: []api.Option{{Code: 10, Data: []byte{7}}}}
	bad      = opt(1232, 1)
)

// named tells a record of the type OPT whose owner is not the root.
func named() api.Record {
	r := opt(1232, 0)
	r.Owner = api.Name{"a"}
	return r
}

// P11.2: Of.

func TestOf(t *testing.T) {
	a, b := other("a"), other("b")
	none := api.Edns{}
	for _, c := range []struct {
		title string
		m     api.Message
		want  api.Edns
		there bool
		err   api.Errno
	}{
		{"nothing", api.Message{}, none, false, api.OK},
		{"empty lists", api.Message{Additional: []api.Record{}}, none, false, api.OK},
		{"others", with(a, b), none, false, api.OK},
		{"a type beside OPT", with(api.Record{Type: 42}, api.Record{Type: 40}, api.Record{Type: 297}), none, false, api.OK},
		{"one", with(good), said1232, true, api.OK},
		{"one behind others", with(a, b, good), said1232, true, api.OK},
		{"one ahead of others", with(good, a, b), said1232, true, api.OK},
		{"one in between", with(a, good, b), said1232, true, api.OK},
		{"one of nothing", with(opt(0, 0)), none, true, api.OK},
		{"one that says nothing", with(bad), none, false, api.ErrBytes},
		{"one that says nothing in between", with(a, bad, b), none, false, api.ErrBytes},
		{"one with an owner", with(named()), none, false, api.ErrBytes},
		{"one with half an option", with(opt(512, 0, 0, 1, 0, 1)), none, false, api.ErrBytes},
		{"two", with(good, good), none, false, api.ErrThere},
		{"two, others in between", with(a, good, b, good, a), none, false, api.ErrThere},
		{"two, the first says nothing", with(bad, good), none, false, api.ErrThere},
		{"two, the second says nothing", with(good, bad), none, false, api.ErrThere},
		{"two that say nothing", with(bad, named()), none, false, api.ErrThere},
		{"three", with(good, opt(1, 0), bad), none, false, api.ErrThere},
		{"513 of them", with(slices.Repeat([]api.Record{good}, 513)...), none, false, api.ErrThere},
		{"one behind 600 others", with(append(slices.Repeat([]api.Record{a}, 600), good)...), said1232, true, api.OK},
	} {
		tells(t, c.title, c.m, c.want, c.there, c.err)
		// OPT elsewhere counts for nothing.
		for _, x := range []api.Record{good, bad} {
			m := c.m
			m.Answer = []api.Record{a, x}
			tells(t, c.title+", OPT in the answer", m, c.want, c.there, c.err)
			m.Authority = []api.Record{x, b, x}
			tells(t, c.title+", OPT in the authority, too", m, c.want, c.there, c.err)
			m.Questions = []api.Question{{Type: api.OPT}}
			m.Opcode, m.Rcode = -1, 99
			tells(t, c.title+", OPT in a question, too", m, c.want, c.there, c.err)
		}
	}
}

// P11.3: With.

func TestWith(t *testing.T) {
	a, b := other("a"), other("b")
	elsewhere := api.Message{ID: 9, Response: true, Opcode: 3, AA: true, TC: true, RD: true, RA: true, AD: true, CD: true, Rcode: 5, Questions: []api.Question{{Name: api.Name{"q"}, Type: api.OPT, Class: 3}}, Answer: []api.Record{good, a}, Authority: []api.Record{bad, named()}, Additional: []api.Record{b, a}}
	wrong := api.Message{Opcode: -1, Rcode: 4096, Questions: make([]api.Question, 17), Answer: []api.Record{{Owner: api.Name{""}, Type: api.ANY, Data: api.Data{Nums: []uint32{1}, Texts: []string{""}, Names: make([]api.Name, 3), Raw: []byte{1}}}}, Additional: make([]api.Record, 600)}
	for title, m := range map[string]api.Message{"nothing": {}, "empty lists": with([]api.Record{}...), "others": with(a, b), "OPT elsewhere": elsewhere, "what may not be written": wrong} {
		for _, e := range []api.Edns{{}, said1232, {Size: 65535, High: 255, Version: 255, DO: true}, {Options: []api.Option{choice(1, 65531)}}} {
			ttl, raw, _ := may(e)
			want := m
			want.Additional = append(slices.Clone(m.Additional), opt(api.Class(e.Size), uint32(ttl), raw...))
			if got, err := edns.With(m, e); err != api.OK || !alike(got, want) {
				t.Errorf("%s: With = %s, %d", title, brief(got), err)
			}
		}
	}
}

func TestWithsErrors(t *testing.T) {
	a := other("a")
	refused := func(title string, m api.Message, e api.Edns, want api.Errno) {
		t.Helper()
		if got, err := edns.With(m, e); err != want || !alike(got, api.Message{}) {
			t.Errorf("%s: With = %s, %d", title, brief(got), err)
		}
	}
	not := []api.Edns{{Size: -1}, {Size: 65536}, {High: -1}, {High: 256}, {Version: -1}, {Version: 256}, {Options: []api.Option{choice(1, 65532)}}, {Options: make([]api.Option, 16384)}}
	for title, m := range map[string]api.Message{"one": with(good), "one that says nothing": with(bad), "one with an owner": with(named()), "behind others": with(a, a, good), "ahead of others": with(good, a), "two": with(good, bad)} {
		refused(title, m, api.Edns{Size: 512}, api.ErrThere)
		for _, e := range not {
			refused(title+", and what may not be said", m, e, api.ErrThere)
		}
	}
	elsewhere := api.Message{Answer: []api.Record{good}, Authority: []api.Record{good}}
	for _, e := range not {
		refused("what may not be said", api.Message{}, e, api.ErrArg)
		refused("what may not be said, behind others", with(a, a), e, api.ErrArg)
		refused("what may not be said, OPT elsewhere", elsewhere, e, api.ErrArg)
	}
}

// P11.3: Without.

func TestWithout(t *testing.T) {
	a, b, c := other("a"), other("b"), other("c")
	for i, x := range []struct{ l, want []api.Record }{
		{nil, nil},
		{[]api.Record{}, nil},
		{[]api.Record{a, b}, []api.Record{a, b}},
		{[]api.Record{b, a, b}, []api.Record{b, a, b}},
		{[]api.Record{good}, nil},
		{[]api.Record{bad}, nil},
		{[]api.Record{named()}, nil},
		{[]api.Record{good, a, b}, []api.Record{a, b}},
		{[]api.Record{a, good, b}, []api.Record{a, b}},
		{[]api.Record{a, b, good}, []api.Record{a, b}},
		{[]api.Record{good, good}, nil},
		{[]api.Record{good, bad, named()}, nil},
		{[]api.Record{bad, c, good, named(), a, good, b, opt(0, 0)}, []api.Record{c, a, b}},
		{[]api.Record{{}, {Type: 40}, good, {Type: 42}, {Type: 297}}, []api.Record{{}, {Type: 40}, {Type: 42}, {Type: 297}}},
		{slices.Repeat([]api.Record{good, a}, 600), slices.Repeat([]api.Record{a}, 600)},
	} {
		for j, m := range []api.Message{
			{},
			{ID: 9, Response: true, Opcode: 3, AA: true, TC: true, RD: true, RA: true, AD: true, CD: true, Rcode: 5, Questions: []api.Question{{Name: api.Name{"q"}, Type: api.OPT, Class: 3}}},
			{Answer: []api.Record{good, a, good}, Authority: []api.Record{bad}},
			{Opcode: -1, Rcode: 4096, Questions: make([]api.Question, 17), Answer: make([]api.Record, 513)},
		} {
			want := m
			m.Additional, want.Additional = x.l, x.want
			if got := edns.Without(m); !alike(got, want) {
				t.Errorf("%d, %d: Without = %s", i, j, brief(got))
			}
		}
	}
}

// P11.4: Size.

func TestSize(t *testing.T) {
	for _, own := range []int{512, 513, 600, 1231, 1232, 1233, 4096, 65534, 65535} {
		for _, size := range []int{0, 1, 100, 511, 512, 513, own - 1, own, own + 1, 4096, 65535} {
			if size > 65535 {
				continue
			}
			want := size
			if size < 512 {
				want = 512
			}
			if want > own {
				want = own
			}
			for _, m := range []api.Message{with(opt(api.Class(size), 0)), with(other("a"), opt(api.Class(size), 0xffff8000, 0, 1, 0, 0), other("b")), {Response: true, TC: true, Opcode: -1, Answer: []api.Record{opt(777, 0)}, Additional: []api.Record{opt(api.Class(size), 0)}}} {
				if n, err := edns.Size(m, own); n != want || err != api.OK {
					t.Errorf("Size(%d, %d) = %d, %d, not %d", size, own, n, err, want)
				}
			}
		}
		for title, m := range map[string]api.Message{
			"none": {}, "others": with(other("a")), "OPT elsewhere": {Answer: []api.Record{opt(4096, 0)}, Authority: []api.Record{opt(4096, 0)}},
			"two": with(opt(4096, 0), opt(4096, 0)), "one that says nothing": with(opt(4096, 1)), "one with an owner": with(api.Record{Owner: api.Name{"a"}, Type: api.OPT, Class: 4096}),
			"half an option": with(opt(4096, 0, 1)), "a text": with(api.Record{Type: api.OPT, Class: 4096, Data: api.Data{Texts: []string{""}}}), "another type": with(api.Record{Type: 99, Class: 4096}),
		} {
			if n, err := edns.Size(m, own); n != 512 || err != api.OK {
				t.Errorf("%s: Size(%d) = %d, %d", title, own, n, err)
			}
		}
	}
}

func TestOwnSizesThatMayNotBe(t *testing.T) {
	for _, own := range []int{math.MinInt, -65536, -512, -1, 0, 1, 256, 510, 511, 65536, 65537, 65536 + 512, 1 << 32, math.MaxInt} {
		for title, m := range map[string]api.Message{"none": {}, "one": with(good), "two": with(good, good), "one that says nothing": with(bad)} {
			if n, err := edns.Size(m, own); n != 0 || err != api.ErrArg {
				t.Errorf("%s: Size(%d) = %d, %d", title, own, n, err)
			}
		}
	}
}

// P11.2 to P11.4 held against the words, by chance.

func TestMessagesByChance(t *testing.T) {
	r := rand.New(rand.NewSource(112))
	seen := map[string]int{}
	for range 20000 {
		m := someMessage(r)
		in, out := opts(m)
		want, there, err := api.Edns{}, false, api.OK
		if len(in) > 1 {
			err = api.ErrThere
		} else if len(in) == 1 {
			if want, there = said(in[0]); !there {
				err = api.ErrBytes
			}
		}
		seen[fmt.Sprintf("%v %d", there, err)]++
		tells(t, "a message by chance", m, want, there, err)
		left := m
		left.Additional = out
		if got := edns.Without(m); !alike(got, left) {
			t.Fatalf("Without(%s) = %s", brief(m), brief(got))
		}
		own, size := 512+r.Intn(65024), 512
		if there {
			size = max(512, want.Size)
		}
		if n, err := edns.Size(m, own); n != min(own, size) || err != api.OK {
			t.Fatalf("Size(%s, %d) = %d, %d", brief(m), own, n, err)
		}
		e := someEdns(r)
		got, err := edns.With(m, e)
		if len(in) > 0 {
			if err != api.ErrThere || !alike(got, api.Message{}) {
				t.Fatalf("With = %s, %d", brief(got), err)
			}
			continue
		}
		ttl, b, _ := may(e)
		left.Additional = append(slices.Clone(out), opt(api.Class(e.Size), uint32(ttl), b...))
		if err != api.OK || !alike(got, left) {
			t.Fatalf("With = %s, %d", brief(got), err)
		}
	}
	if len(seen) != 4 || min(seen["false 0"], seen["true 0"], seen["false 8"], seen["false 10"]) < 400 {
		t.Errorf("seen: %v", seen)
	}
}

// P11.5: what follows, by chance.

func TestWhatFollows(t *testing.T) {
	r := rand.New(rand.NewSource(115))
	for range 10000 {
		e, m := someEdns(r), someMessage(r)
		x, err := edns.Record(e)
		if err != api.OK {
			t.Fatalf("Record = %d", err)
		}
		if back, err := edns.Read(x); err != api.OK || !alike(back, e) {
			t.Fatalf("Read of Record of %s = %s, %d", brief(e), brief(back), err)
		}
		y := someRecord(r)
		if e, err := edns.Read(y); err == api.OK {
			if back, err := edns.Record(e); err != api.OK || !alike(back, y) {
				t.Fatalf("Record of Read of %s = %s, %d", brief(y), brief(back), err)
			}
		}
		m = edns.Without(m)
		full, err := edns.With(m, e)
		if err != api.OK {
			t.Fatalf("With behind Without = %d", err)
		}
		tells(t, "Of With", full, e, true, api.OK)
		if back := edns.Without(full); !alike(back, m) || !message.Same(back, m) {
			t.Fatalf("Without of With of %s = %s", brief(m), brief(back))
		}
		if _, err := edns.With(full, e); err != api.ErrThere {
			t.Fatalf("With twice = %d", err)
		}
	}
}

// P2: a message with the record is written, and read again as it was.

func TestThroughBytes(t *testing.T) {
	r := rand.New(rand.NewSource(116))
	for range 2000 {
		e := someEdns(r)
		m := api.Message{ID: 1, Response: true, Rcode: 3, Questions: []api.Question{{Name: api.Name{"a"}, Type: api.A, Class: api.IN}}, Answer: []api.Record{other("a")}, Additional: []api.Record{other("b")}}
		full, _ := edns.With(m, e)
		b, err := message.Bytes(full)
		if err != api.OK {
			t.Fatalf("Bytes = %d", err)
		}
		back, err := message.Read(b)
		if err != api.OK || !alike(back, full) {
			t.Fatalf("Read of %s = %s, %d", brief(full), brief(back), err)
		}
		tells(t, "what was read", back, e, true, api.OK)
		if m2 := edns.Without(back); !alike(m2, m) {
			t.Fatalf("Without = %s", brief(m2))
		}
	}
}

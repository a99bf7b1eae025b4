package edns_test

import (
	"math"
	"math/rand"
	"slices"
	"testing"

	"nomenclator/api"
	"nomenclator/edns"
)

// says tells that e has this record, and the record says e.
func says(t *testing.T, e api.Edns, want api.Record) {
	t.Helper()
	if r, err := edns.Record(e); err != api.OK || !alike(r, want) {
		t.Errorf("Record(%s) = %s, %d, not %s", brief(e), brief(r), err, brief(want))
	}
	if x, err := edns.Read(want); err != api.OK || !alike(x, e) {
		t.Errorf("Read(%s) = %s, %d, not %s", brief(want), brief(x), err, brief(e))
	}
}

func mayNotBeSaid(t *testing.T, e api.Edns) {
	t.Helper()
	if r, err := edns.Record(e); err != api.ErrArg || !alike(r, api.Record{}) {
		t.Errorf("Record(%s) = %s, %d", brief(e), brief(r), err)
	}
}

func saysNothing(t *testing.T, title string, r api.Record) {
	t.Helper()
	if e, err := edns.Read(r); err != api.ErrBytes || !alike(e, api.Edns{}) {
		t.Errorf("%s: Read(%s) = %s, %d", title, brief(r), brief(e), err)
	}
}

// P11.1: the chapter's examples.

func TestTheChaptersRecords(t *testing.T) {
	says(t, api.Edns{Size: 1232, DO: true}, opt(1232, 32768))
	says(t, api.Edns{Size: 4096, Version: 1, Options: []api.Option{{Code: 10, Data: []byte{1, 2}}}}, opt(4096, 65536, 0, 10, 0, 2, 1, 2))
	mayNotBeSaid(t, api.Edns{Size: 65536})
	saysNothing(t, "an option with too few bytes", opt(4096, 65536, 0, 10, 0, 3, 1, 2))
	saysNothing(t, "a TTL", opt(4096, 1, 0, 10, 0, 2, 1, 2))
	r := opt(4096, 65536, 0, 10, 0, 2, 1, 2)
	r.Owner = api.Name{"a"}
	saysNothing(t, "an owner", r)
}

// P11.1: what may be said, number by number.

func TestNumbersThatMayBeSaid(t *testing.T) {
	for _, c := range []struct {
		e    api.Edns
		size api.Class
		ttl  uint32
	}{
		{api.Edns{}, 0, 0},
		{api.Edns{Options: []api.Option{}}, 0, 0},
		{api.Edns{Size: 1}, 1, 0}, {api.Edns{Size: 256}, 256, 0}, {api.Edns{Size: 511}, 511, 0}, {api.Edns{Size: 32768}, 32768, 0}, {api.Edns{Size: 65535}, 65535, 0},
		{api.Edns{High: 1}, 0, 1 << 24}, {api.Edns{High: 16}, 0, 1 << 28}, {api.Edns{High: 128}, 0, 1 << 31}, {api.Edns{High: 255}, 0, 255 << 24},
		{api.Edns{Version: 1}, 0, 1 << 16}, {api.Edns{Version: 128}, 0, 1 << 23}, {api.Edns{Version: 255}, 0, 255 << 16},
		{api.Edns{DO: true}, 0, 32768}, {api.Edns{Version: 1, DO: true}, 0, 98304},
		{api.Edns{Size: 65535, High: 255, Version: 255}, 65535, 0xffff0000},
		{api.Edns{Size: 65535, High: 255, Version: 255, DO: true}, 65535, 0xffff8000},
		{api.Edns{Size: 4660, High: 86, Version: 120, DO: true}, 0x1234, 0x56788000},
	} {
		says(t, c.e, opt(c.size, c.ttl))
	}
}

func TestNumbersThatMayNotBeSaid(t *testing.T) {
	for _, n := range []int{math.MinInt, -65536, -256, -2, -1, 65536, 65537, 131071, 1 << 32, math.MaxInt} {
		mayNotBeSaid(t, api.Edns{Size: n})
		mayNotBeSaid(t, api.Edns{High: n})
		mayNotBeSaid(t, api.Edns{Version: n})
		mayNotBeSaid(t, api.Edns{Size: n, High: n, Version: n, DO: true, Options: []api.Option{choice(1, 2)}})
	}
	for _, n := range []int{256, 257, 511, 512, 65535} {
		mayNotBeSaid(t, api.Edns{High: n})
		mayNotBeSaid(t, api.Edns{Version: n})
	}
}

// P11.1: options.

func TestOptions(t *testing.T) {
	for _, c := range edgesOfRaw {
		if c.ok {
			says(t, api.Edns{Size: 7, High: 3, Version: 2, DO: true, Options: c.want}, opt(7, 0x03028000, c.b...))
		} else {
			saysNothing(t, "no options", opt(7, 0x03028000, c.b...))
		}
	}
	says(t, api.Edns{Options: []api.Option{{Code: 3, Data: []byte{}}}}, opt(0, 0, 0, 3, 0, 0))
	says(t, api.Edns{Options: []api.Option{{}, {}, {}}}, opt(0, 0, make([]byte, 12)...))
	// The same code may come again, and the order stays.
	says(t, api.Edns{Options: []api.Option{{Code: 9, Data: []byte{1}}, {Code: 4}, {Code: 9}}}, opt(0, 0, 0, 9, 0, 1, 1, 0, 4, 0, 0, 0, 9, 0, 0))
}

// Every count of bytes in an option goes into both its bytes.
func TestAnOptionOfEachSize(t *testing.T) {
	for _, size := range []int{1, 127, 128, 255, 256, 257, 511, 512, 32767, 32768, 65279, 65280, 65530, 65531} {
		b := append([]byte{1, 2, byte(size / 256), byte(size % 256)}, slices.Repeat([]byte{2}, size)...)
		says(t, api.Edns{Options: []api.Option{choice(258, size)}}, opt(0, 0, b...))
		saysNothing(t, "a byte more", opt(0, 0, append(b, 0)...))
		saysNothing(t, "a byte less", opt(0, 0, b[:len(b)-1]...))
	}
}

// All options, each with four bytes ahead, have at most 65,535 bytes.
func TestTheLongestOptions(t *testing.T) {
	for _, sizes := range [][]int{{65531}, {65527, 0}, {0, 65527}, {32764, 32763}, {1, 1, 65521}, slices.Repeat([]int{11}, 4369), append(make([]int, 16382), 3), append([]int{3}, make([]int, 16382)...)} {
		var e api.Edns
		for i, n := range sizes {
			e.Options = append(e.Options, choice(uint16(i), n))
		}
		_, b, ok := may(e)
		if !ok || len(b) != 65535 {
			t.Fatalf("%d options have %d bytes", len(sizes), len(b))
		}
		says(t, e, opt(0, 0, b...))
		for i := range min(3, len(sizes)) {
			longer := api.Edns{Options: slices.Clone(e.Options)}
			longer.Options[i] = choice(uint16(i), sizes[i]+1)
			mayNotBeSaid(t, longer)
			_, b, _ := may(longer)
			saysNothing(t, "65,536 bytes", opt(0, 0, b...))
		}
		mayNotBeSaid(t, api.Edns{Options: append(slices.Clone(e.Options), api.Option{})})
		mayNotBeSaid(t, api.Edns{Options: append([]api.Option{{}}, e.Options...)})
		saysNothing(t, "65,539 bytes", opt(0, 0, append(b, 0, 0, 0, 0)...))
	}
}

func TestOptionsThatAreTooLong(t *testing.T) {
	for _, size := range []int{65532, 65533, 65534, 65535, 65536, 65540, 131072, 1 << 20} {
		mayNotBeSaid(t, api.Edns{Options: []api.Option{choice(1, size)}})
		mayNotBeSaid(t, api.Edns{Options: []api.Option{choice(1, size), {}}})
		mayNotBeSaid(t, api.Edns{Options: []api.Option{{}, choice(1, size)}})
	}
	mayNotBeSaid(t, api.Edns{Options: []api.Option{choice(1, 40000), choice(2, 40000)}})
	mayNotBeSaid(t, api.Edns{Options: slices.Repeat([]api.Option{choice(1, 65531)}, 20000)})
	mayNotBeSaid(t, api.Edns{Options: make([]api.Option, 16384)})
	mayNotBeSaid(t, api.Edns{Options: make([]api.Option, 1<<20)})
	saysNothing(t, "65,536 bytes", opt(0, 0, make([]byte, 65536)...))
	saysNothing(t, "2^20 bytes", opt(0, 0, make([]byte, 1<<20)...))
	if e, err := edns.Read(opt(0, 0, make([]byte, 65532)...)); err != api.OK || len(e.Options) != 16383 {
		t.Errorf("Read of 65,532 noughts = %d options, %d", len(e.Options), err)
	}
}

// P11.1: records that say nothing.

func TestRecordsThatSayNothing(t *testing.T) {
	for title, spoil := range map[string]func(r *api.Record){
		"the owner a.":       func(r *api.Record) { r.Owner = api.Name{"a"} },
		"an empty label":     func(r *api.Record) { r.Owner = api.Name{""} },
		"a long owner":       func(r *api.Record) { r.Owner = make(api.Name, 300) },
		"the type 0":         func(r *api.Record) { r.Type = 0 },
		"the type A":         func(r *api.Record) { r.Type = api.A },
		"the type 40":        func(r *api.Record) { r.Type = 40 },
		"the type 42":        func(r *api.Record) { r.Type = 42 },
		"the type 41 + 256":  func(r *api.Record) { r.Type = 41 + 256 },
		"the type ANY":       func(r *api.Record) { r.Type = api.ANY },
		"a name":             func(r *api.Record) { r.Data.Names = []api.Name{{"a"}} },
		"the root as a name": func(r *api.Record) { r.Data.Names = make([]api.Name, 1) },
		"a number":           func(r *api.Record) { r.Data.Nums = []uint32{0} },
		"a text":             func(r *api.Record) { r.Data.Texts = []string{"a"} },
		"an empty text":      func(r *api.Record) { r.Data.Texts = []string{""} },
		"names, numbers, texts": func(r *api.Record) {
			r.Data.Names, r.Data.Nums, r.Data.Texts = make([]api.Name, 2), make([]uint32, 2), make([]string, 2)
		},
	} {
		for _, b := range [][]byte{nil, {0, 1, 0, 0}, {0, 1, 0, 1}} {
			r := opt(512, 1<<24, b...)
			spoil(&r)
			saysNothing(t, title, r)
		}
	}
	for i := range 15 {
		for _, ttl := range []uint32{0, 32768, 0xffff8000} {
			saysNothing(t, "a bit of the TTL", opt(512, ttl+1<<i))
		}
	}
	saysNothing(t, "all bits of the TTL", opt(512, math.MaxUint32))
	saysNothing(t, "a record of nothing", api.Record{})
}

// Empty lists are as good as none.
func TestEmptyLists(t *testing.T) {
	r := api.Record{Owner: api.Name{}, Type: api.OPT, Class: 9, Data: api.Data{Names: []api.Name{}, Nums: []uint32{}, Texts: []string{}, Raw: []byte{}}}
	says(t, api.Edns{Size: 9, Options: []api.Option{}}, r)
}

// Every TTL of which the lower bits are none is split and put together again.
func TestEveryTTL(t *testing.T) {
	for i := range 1 << 17 {
		r := opt(3, uint32(i)<<15)
		want := api.Edns{Size: 3, High: i / 512, Version: i / 2 % 256, DO: i%2 == 1}
		e, err := edns.Read(r)
		if err != api.OK || e.Size != want.Size || e.High != want.High || e.Version != want.Version || e.DO != want.DO || len(e.Options) != 0 {
			t.Fatalf("Read(%v) = %v, %d", r, e, err)
		}
		if x, err := edns.Record(e); err != api.OK || x.TTL != r.TTL || x.Class != 3 || x.Type != api.OPT {
			t.Fatalf("Record(%v) = %v, %d", e, x, err)
		}
	}
	for i := range 1 << 16 {
		if e, err := edns.Read(opt(api.Class(i), 0)); err != api.OK || e.Size != i {
			t.Fatalf("the class %d: %v, %d", i, e, err)
		}
		if e, err := edns.Read(opt(0, uint32(i))); (err == api.OK) != (i%32768 == 0) || e.DO != (i == 32768) {
			t.Fatalf("the TTL %d: %v, %d", i, e, err)
		}
	}
}

// P11.1 held against the words, by chance.

func TestRecordsByChance(t *testing.T) {
	r := rand.New(rand.NewSource(111))
	yes, no := 0, 0
	for range 20000 {
		e := someEdns(r)
		ttl, b, _ := may(e)
		says(t, e, opt(api.Class(e.Size), uint32(ttl), b...))
		x := someRecord(r)
		if want, ok := said(x); ok {
			yes++
			says(t, want, x)
		} else {
			no++
			saysNothing(t, "a record by chance", x)
		}
	}
	if yes < 5000 || no < 5000 {
		t.Errorf("%d say something, %d nothing", yes, no)
	}
}

// Short bytes, all of them of few digits, are cut as the words say.
func TestShortBytes(t *testing.T) {
	digits := []byte{0, 1, 2, 5}
	var grow func(b []byte)
	grow = func(b []byte) {
		x := opt(0, 0, slices.Clone(b)...)
		if want, ok := said(x); ok {
			says(t, want, x)
		} else {
			saysNothing(t, "short bytes", x)
		}
		if len(b) == 7 {
			return
		}
		for _, c := range digits {
			grow(append(b, c))
		}
	}
	grow(make([]byte, 0, 8))
}

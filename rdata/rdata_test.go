package rdata_test

import (
	"bytes"
	"math"
	"math/rand"
	"slices"
	"strings"
	"testing"

	"nomenclator/api"
	"nomenclator/rdata"
)

// own has each type that has fields of its own, bare a type of each kind that has Raw alone, none the edges of those that have no data.
var (
	own  = []api.Type{api.A, api.NS, api.CNAME, api.SOA, api.PTR, api.MX, api.TXT, api.AAAA, api.SRV, api.CAA}
	bare = []api.Type{3, 4, 10, 11, 13, 14, 17, 27, 29, 32, 34, api.OPT, 99, 127, 256, 258, 32768, 65535}
	none = []api.Type{0, 128, 129, 200, 251, 252, 254, api.ANY}
)

// of tells the name that a text of labels with dots behind them is; the root is a dot alone.
func of(s string) api.Name {
	l := strings.Split(s, ".")
	if s == "." {
		return nil
	}
	return api.Name(l[:len(l)-1])
}

func names(texts ...string) []api.Name {
	var l []api.Name
	for _, s := range texts {
		l = append(l, of(s))
	}
	return l
}

func raw(b ...byte) api.Data { return api.Data{Raw: b} }

// same tells whether two data are field by field the same, letter by letter.
func same(a, b api.Data) bool {
	return slices.EqualFunc(a.Names, b.Names, func(x, y api.Name) bool { return slices.Equal(x, y) }) && slices.Equal(a.Nums, b.Nums) && slices.Equal(a.Texts, b.Texts) && bytes.Equal(a.Raw, b.Raw)
}

func empty(d api.Data) bool { return same(d, api.Data{}) }

// good are data that may be, with their bytes.
var good = []struct {
	t api.Type
	d api.Data
	b string
}{
	{api.A, raw(1, 2, 3, 4), "\x01\x02\x03\x04"},
	{api.A, raw(0, 0, 0, 0), "\x00\x00\x00\x00"},
	{api.A, raw(255, 255, 255, 255), "\xff\xff\xff\xff"},
	{api.AAAA, api.Data{Raw: []byte("0123456789abcdef")}, "0123456789abcdef"},
	{api.NS, api.Data{Names: names("a.")}, "\x01a\x00"},
	{api.NS, api.Data{Names: names(".")}, "\x00"},
	{api.CNAME, api.Data{Names: names("Www.a.")}, "\x03Www\x01a\x00"},
	{api.PTR, api.Data{Names: []api.Name{{"a.b", "\x00"}}}, "\x03a.b\x01\x00\x00"},
	{api.SOA, api.Data{Names: names("ns.a.", "b."), Nums: []uint32{1, 2, 3, 4, 30}}, "\x02ns\x01a\x00\x01b\x00" + "\x00\x00\x00\x01\x00\x00\x00\x02\x00\x00\x00\x03\x00\x00\x00\x04\x00\x00\x00\x1e"},
	{api.SOA, api.Data{Names: names(".", "."), Nums: []uint32{0, 255, 65536, math.MaxUint32, 0x01020304}}, "\x00\x00" + "\x00\x00\x00\x00\x00\x00\x00\xff\x00\x01\x00\x00\xff\xff\xff\xff\x01\x02\x03\x04"},
	{api.MX, api.Data{Nums: []uint32{10}, Names: names("a.")}, "\x00\x0a\x01a\x00"},
	{api.MX, api.Data{Nums: []uint32{65535}, Names: names(".")}, "\xff\xff\x00"},
	{api.MX, api.Data{Nums: []uint32{256}, Names: names(".")}, "\x01\x00\x00"},
	{api.SRV, api.Data{Nums: []uint32{1, 515, 65535}, Names: names("a.b.")}, "\x00\x01\x02\x03\xff\xff\x01a\x01b\x00"},
	{api.TXT, api.Data{Texts: []string{""}}, "\x00"},
	{api.TXT, api.Data{Texts: []string{"a", ""}}, "\x01a\x00"},
	{api.TXT, api.Data{Texts: []string{"", "\x01a", "\x00\xff"}}, "\x00\x02\x01a\x02\x00\xff"},
	{api.TXT, api.Data{Texts: []string{strings.Repeat("x", 255)}}, "\xff" + strings.Repeat("x", 255)},
	{api.TXT, api.Data{Texts: slices.Repeat([]string{""}, 65535)}, strings.Repeat("\x00", 65535)},
	{api.CAA, api.Data{Nums: []uint32{0}, Texts: []string{"issue", "x"}}, "\x00\x05issuex"},
	{api.CAA, api.Data{Nums: []uint32{255}, Texts: []string{"Z", ""}}, "\xff\x01Z"},
	{api.CAA, api.Data{Nums: []uint32{128}, Texts: []string{"0123456789azAZ9", "\x00\xff"}}, "\x80\x0f0123456789azAZ9\x00\xff"},
	{api.CAA, api.Data{Nums: []uint32{1}, Texts: []string{"iodef", strings.Repeat("y", 65528)}}, "\x01\x05iodef" + strings.Repeat("y", 65528)},
	{99, raw(7, 7), "\x07\x07"},
	{99, api.Data{}, ""},
	{api.OPT, api.Data{}, ""},
	{api.OPT, raw(0, 1, 2), "\x00\x01\x02"},
	{127, raw(0), "\x00"},
	{256, raw(1), "\x01"},
	{65535, api.Data{Raw: bytes.Repeat([]byte{9}, 65535)}, strings.Repeat("\x09", 65535)},
}

// P5.1, P5.2: what may be.

func TestGood(t *testing.T) {
	for i, c := range good {
		if e := rdata.Check(c.t, c.d); e != api.OK {
			t.Errorf("%d: Check = %d", i, e)
		}
		if b, e := rdata.Bytes(c.t, c.d); string(b) != c.b || e != api.OK {
			t.Errorf("%d: Bytes = %.40q, %d", i, b, e)
		}
		if d, e := rdata.Read(c.t, []byte(c.b)); !same(d, c.d) || e != api.OK {
			t.Errorf("%d: Read = %v, %d", i, d, e)
		}
	}
}

// Names that may not be, by a label and by their length; with the greatest ones that may be.
var (
	label64 = api.Name{"a", strings.Repeat("a", 64)}
	label0  = api.Name{"a", ""}
	name256 = api.Name(append(slices.Repeat([]string{strings.Repeat("a", 63)}, 3), strings.Repeat("a", 62)))
	name255 = api.Name(append(slices.Repeat([]string{strings.Repeat("a", 63)}, 3), strings.Repeat("a", 61)))
)

// P5.1: what Check and Bytes refuse, and which error stands ahead.

func TestRefused(t *testing.T) {
	a, five := names("a."), []uint32{1, 2, 3, 4, 5}
	for i, c := range []struct {
		t    api.Type
		d    api.Data
		want api.Errno
	}{
		// One too few, one too many, none.
		{api.A, raw(1, 2, 3), api.ErrData}, {api.A, raw(1, 2, 3, 4, 5), api.ErrData}, {api.A, api.Data{}, api.ErrData}, {api.A, api.Data{Raw: make([]byte, 16)}, api.ErrData},
		{api.AAAA, api.Data{Raw: make([]byte, 15)}, api.ErrData}, {api.AAAA, api.Data{Raw: make([]byte, 17)}, api.ErrData}, {api.AAAA, raw(1, 2, 3, 4), api.ErrData}, {api.AAAA, api.Data{}, api.ErrData},
		{api.NS, api.Data{}, api.ErrData}, {api.CNAME, api.Data{}, api.ErrData}, {api.PTR, api.Data{}, api.ErrData}, {api.NS, api.Data{Names: names("a.", "b.")}, api.ErrData}, {api.CNAME, api.Data{Names: names("a.", "b.")}, api.ErrData}, {api.PTR, api.Data{Names: names("a.", "b.")}, api.ErrData},
		{api.SOA, api.Data{}, api.ErrData}, {api.SOA, api.Data{Names: a, Nums: five}, api.ErrData}, {api.SOA, api.Data{Names: names("a.", "b.", "c."), Nums: five}, api.ErrData}, {api.SOA, api.Data{Names: names("a.", "b."), Nums: five[:4]}, api.ErrData}, {api.SOA, api.Data{Names: names("a.", "b."), Nums: append(five, 6)}, api.ErrData}, {api.SOA, api.Data{Names: names("a.", "b.")}, api.ErrData}, {api.SOA, api.Data{Nums: five}, api.ErrData},
		{api.MX, api.Data{Names: a}, api.ErrData}, {api.MX, api.Data{Nums: five[:1]}, api.ErrData}, {api.MX, api.Data{Nums: five[:2], Names: a}, api.ErrData}, {api.MX, api.Data{Nums: five[:1], Names: names("a.", "b.")}, api.ErrData},
		{api.SRV, api.Data{Nums: five[:2], Names: a}, api.ErrData}, {api.SRV, api.Data{Nums: five[:4], Names: a}, api.ErrData}, {api.SRV, api.Data{Nums: five[:3]}, api.ErrData}, {api.SRV, api.Data{Nums: five[:3], Names: names("a.", "b.")}, api.ErrData},
		{api.TXT, api.Data{}, api.ErrData}, {api.TXT, api.Data{Texts: []string{}}, api.ErrData},
		{api.CAA, api.Data{Nums: five[:1], Texts: []string{"a"}}, api.ErrData}, {api.CAA, api.Data{Nums: five[:1], Texts: []string{"a", "b", "c"}}, api.ErrData}, {api.CAA, api.Data{Texts: []string{"a", "b"}}, api.ErrData}, {api.CAA, api.Data{Nums: five[:2], Texts: []string{"a", "b"}}, api.ErrData}, {api.CAA, api.Data{Nums: five[:1]}, api.ErrData}, {api.CAA, api.Data{}, api.ErrData},
		// Numbers past their bounds, the first and the last.
		{api.MX, api.Data{Nums: []uint32{65536}, Names: a}, api.ErrData}, {api.MX, api.Data{Nums: []uint32{math.MaxUint32}, Names: a}, api.ErrData}, {api.SRV, api.Data{Nums: []uint32{65536, 0, 0}, Names: a}, api.ErrData}, {api.SRV, api.Data{Nums: []uint32{0, 65536, 0}, Names: a}, api.ErrData}, {api.SRV, api.Data{Nums: []uint32{0, 0, 65536}, Names: a}, api.ErrData}, {api.CAA, api.Data{Nums: []uint32{256}, Texts: []string{"a", "b"}}, api.ErrData}, {api.CAA, api.Data{Nums: []uint32{math.MaxUint32}, Texts: []string{"a", "b"}}, api.ErrData},
		// Texts.
		{api.TXT, api.Data{Texts: []string{strings.Repeat("x", 256)}}, api.ErrData}, {api.TXT, api.Data{Texts: []string{"", strings.Repeat("x", 256)}}, api.ErrData}, {api.TXT, api.Data{Texts: []string{strings.Repeat("x", 65536)}}, api.ErrData},
		{api.CAA, api.Data{Nums: five[:1], Texts: []string{"", "x"}}, api.ErrData}, {api.CAA, api.Data{Nums: five[:1], Texts: []string{"is-sue", "x"}}, api.ErrData}, {api.CAA, api.Data{Nums: five[:1], Texts: []string{strings.Repeat("a", 16), "x"}}, api.ErrData}, {api.CAA, api.Data{Nums: five[:1], Texts: []string{"é", "x"}}, api.ErrData}, {api.CAA, api.Data{Nums: five[:1], Texts: []string{"ſ", "x"}}, api.ErrData}, {api.CAA, api.Data{Nums: five[:1], Texts: []string{"a ", "x"}}, api.ErrData}, {api.CAA, api.Data{Nums: five[:1], Texts: []string{"\x00", "x"}}, api.ErrData},
		// Names, the first and the second.
		{api.NS, api.Data{Names: []api.Name{label0}}, api.ErrLabel}, {api.NS, api.Data{Names: []api.Name{label64}}, api.ErrLabel}, {api.NS, api.Data{Names: []api.Name{name256}}, api.ErrName}, {api.NS, api.Data{Names: []api.Name{name255}}, api.OK},
		{api.CNAME, api.Data{Names: []api.Name{name256}}, api.ErrName}, {api.PTR, api.Data{Names: []api.Name{label0}}, api.ErrLabel}, {api.MX, api.Data{Nums: five[:1], Names: []api.Name{label0}}, api.ErrLabel}, {api.SRV, api.Data{Nums: five[:3], Names: []api.Name{name256}}, api.ErrName},
		{api.SOA, api.Data{Names: []api.Name{label0, name256}, Nums: five}, api.ErrLabel}, {api.SOA, api.Data{Names: []api.Name{name256, label0}, Nums: five}, api.ErrName}, {api.SOA, api.Data{Names: []api.Name{nil, label64}, Nums: five}, api.ErrLabel}, {api.SOA, api.Data{Names: []api.Name{name255, name256}, Nums: five}, api.ErrName}, {api.SOA, api.Data{Names: []api.Name{name255, name255}, Nums: five}, api.OK},
		// Data stand ahead of names and of length.
		{api.MX, api.Data{Nums: []uint32{65536}, Names: []api.Name{label0}}, api.ErrData}, {api.NS, api.Data{Names: []api.Name{label0, label0}}, api.ErrData}, {api.NS, api.Data{Names: []api.Name{label0}, Raw: []byte{0}}, api.ErrData}, {api.A, api.Data{Raw: make([]byte, 65536)}, api.ErrData}, {api.TXT, api.Data{Texts: append(slices.Repeat([]string{""}, 65536), strings.Repeat("x", 256))}, api.ErrData}, {api.CAA, api.Data{Nums: []uint32{256}, Texts: []string{"a", strings.Repeat("x", 65536)}}, api.ErrData}, {99, api.Data{Raw: make([]byte, 65536), Nums: []uint32{0}}, api.ErrData},
		// Too many bytes by one, and by many.
		{99, api.Data{Raw: make([]byte, 65535)}, api.OK}, {99, api.Data{Raw: make([]byte, 65536)}, api.ErrLong}, {api.OPT, api.Data{Raw: make([]byte, 65536)}, api.ErrLong}, {65535, api.Data{Raw: make([]byte, 1<<20)}, api.ErrLong},
		{api.TXT, api.Data{Texts: slices.Repeat([]string{""}, 65536)}, api.ErrLong}, {api.TXT, api.Data{Texts: slices.Repeat([]string{strings.Repeat("x", 255)}, 256)}, api.ErrLong}, {api.TXT, api.Data{Texts: append(slices.Repeat([]string{strings.Repeat("x", 255)}, 255), strings.Repeat("x", 254))}, api.OK}, {api.TXT, api.Data{Texts: append(slices.Repeat([]string{strings.Repeat("x", 255)}, 255), strings.Repeat("x", 255))}, api.ErrLong},
		{api.CAA, api.Data{Nums: five[:1], Texts: []string{"a", strings.Repeat("x", 65532)}}, api.OK}, {api.CAA, api.Data{Nums: five[:1], Texts: []string{"a", strings.Repeat("x", 65533)}}, api.ErrLong}, {api.CAA, api.Data{Nums: five[:1], Texts: []string{"a", strings.Repeat("x", 1<<20)}}, api.ErrLong},
	} {
		if e := rdata.Check(c.t, c.d); e != c.want {
			t.Errorf("%d: Check = %d, not %d", i, e, c.want)
		}
		b, e := rdata.Bytes(c.t, c.d)
		if e != c.want || e != api.OK && len(b) != 0 {
			t.Errorf("%d: Bytes = %.40q, %d, not %d", i, b, e, c.want)
		}
	}
}

// P5.1: something in a field that the type has not, be it a thing that is empty itself.

func TestOtherField(t *testing.T) {
	more := []func(*api.Data){
		func(d *api.Data) { d.Names = append(slices.Clone(d.Names), nil) },
		func(d *api.Data) { d.Nums = append(slices.Clone(d.Nums), 0) },
		func(d *api.Data) { d.Texts = append(slices.Clone(d.Texts), "") },
		func(d *api.Data) { d.Raw = append(slices.Clone(d.Raw), 0) },
	}
	for i, c := range good {
		for j, add := range more {
			if c.t == api.TXT && j == 2 || j == 3 && !slices.Contains(own, c.t) {
				continue
			}
			d := c.d
			add(&d)
			if e := rdata.Check(c.t, d); e != api.ErrData {
				t.Errorf("%d, %d: Check = %d", i, j, e)
			}
			if b, e := rdata.Bytes(c.t, d); e != api.ErrData || len(b) != 0 {
				t.Errorf("%d, %d: Bytes = %.40q, %d", i, j, b, e)
			}
		}
	}
}

// Empty lists and nil ones are the same.

func TestEmptyLists(t *testing.T) {
	for i, c := range good {
		d := api.Data{Names: []api.Name{}, Nums: []uint32{}, Texts: []string{}, Raw: []byte{}}
		d.Names, d.Nums, d.Texts, d.Raw = append(d.Names, c.d.Names...), append(d.Nums, c.d.Nums...), append(d.Texts, c.d.Texts...), append(d.Raw, c.d.Raw...)
		for j, n := range d.Names {
			d.Names[j] = append(api.Name{}, n...)
		}
		if b, e := rdata.Bytes(c.t, d); string(b) != c.b || e != api.OK {
			t.Errorf("%d: Bytes = %.40q, %d", i, b, e)
		}
		if !rdata.Same(c.t, c.d, d) {
			t.Errorf("%d: Same", i)
		}
	}
	if d, e := rdata.Read(99, nil); e != api.OK || !empty(d) {
		t.Errorf("Read(99, nil) = %v, %d", d, e)
	}
	if d, e := rdata.Read(api.TXT, nil); e != api.ErrBytes || !empty(d) {
		t.Errorf("Read(TXT, nil) = %v, %d", d, e)
	}
}

// P5.1, P5.2: types, all of them.

func TestTypes(t *testing.T) {
	for n := range 65536 {
		typ := api.Type(n)
		want := api.OK
		switch {
		case n == 0 || 128 <= n && n <= 255:
			want = api.ErrType
		case slices.Contains(own, typ):
			continue
		}
		if e := rdata.Check(typ, raw(7, 7)); e != want {
			t.Errorf("Check(%d) = %d", n, e)
		}
		if b, e := rdata.Bytes(typ, raw(7, 7)); e != want || e == api.OK && string(b) != "\x07\x07" {
			t.Errorf("Bytes(%d) = %q, %d", n, b, e)
		}
		if d, e := rdata.Read(typ, []byte{7, 7}); e != want || e == api.OK && !same(d, raw(7, 7)) {
			t.Errorf("Read(%d) = %v, %d", n, d, e)
		}
	}
}

// A type that may not be stands ahead of all else.

func TestTypeAhead(t *testing.T) {
	bad := []api.Data{{}, raw(1), {Raw: make([]byte, 65536)}, {Names: []api.Name{label0}}, {Texts: []string{strings.Repeat("x", 256)}, Nums: []uint32{1}}}
	for _, typ := range none {
		for _, d := range bad {
			if e := rdata.Check(typ, d); e != api.ErrType {
				t.Errorf("Check(%d) = %d", typ, e)
			}
			if b, e := rdata.Bytes(typ, d); e != api.ErrType || len(b) != 0 {
				t.Errorf("Bytes(%d) = %q, %d", typ, b, e)
			}
		}
		for _, b := range [][]byte{nil, {1}, make([]byte, 65536)} {
			if d, e := rdata.Read(typ, b); e != api.ErrType || !empty(d) {
				t.Errorf("Read(%d) = %v, %d", typ, d, e)
			}
		}
	}
}

// P5.3: Squeezed.

func TestSqueezed(t *testing.T) {
	for n := range 65536 {
		want := n == 2 || n == 5 || n == 6 || n == 12 || n == 15
		if rdata.Squeezed(api.Type(n)) != want {
			t.Errorf("Squeezed(%d)", n)
		}
	}
}

// model tells by which error data are refused, and their bytes, type by type.
func model(t api.Type, d api.Data) ([]byte, api.Errno) {
	nn, nu, nt, nr := len(d.Names), len(d.Nums), len(d.Texts), len(d.Raw)
	counts := [4]int{nn, nu, nt, nr}
	ok := false
	var b []byte
	num := func(n uint32, width int) {
		for width--; width >= 0; width-- {
			b = append(b, byte(n>>(8*width)))
		}
	}
	names := func() {
		for _, n := range d.Names {
			for _, l := range n {
				b = append(append(b, byte(len(l))), l...)
			}
			b = append(b, 0)
		}
	}
	switch {
	case t == 0, 128 <= t && t < 256:
		return nil, api.ErrType
	case t == 1:
		ok, b = counts == [4]int{0, 0, 0, 4}, d.Raw
	case t == 28:
		ok, b = counts == [4]int{0, 0, 0, 16}, d.Raw
	case t == 2, t == 5, t == 12:
		ok = counts == [4]int{1, 0, 0, 0}
		names()
	case t == 6:
		ok = counts == [4]int{2, 5, 0, 0}
		names()
		for _, n := range d.Nums {
			num(n, 4)
		}
	case t == 15, t == 33:
		ok = counts == [4]int{1, 1, 0, 0} && t == 15 || counts == [4]int{1, 3, 0, 0} && t == 33
		for _, n := range d.Nums {
			ok = ok && n < 65536
			num(n, 2)
		}
		names()
	case t == 16:
		ok = nt > 0 && counts == [4]int{0, 0, nt, 0}
		for _, s := range d.Texts {
			ok = ok && len(s) < 256
			b = append(append(b, byte(len(s))), s...)
		}
	case t == 257:
		ok = counts == [4]int{0, 1, 2, 0}
		if ok {
			tag := d.Texts[0]
			ok = d.Nums[0] < 256 && 0 < len(tag) && len(tag) < 16
			for _, c := range []byte(tag) {
				ok = ok && ('0' <= c && c <= '9' || 'a' <= c|32 && c|32 <= 'z')
			}
			b = append([]byte{byte(d.Nums[0]), byte(len(tag))}, tag+d.Texts[1]...)
		}
	default:
		ok, b = counts == [4]int{0, 0, 0, nr}, d.Raw
	}
	if !ok {
		return nil, api.ErrData
	}
	for _, n := range d.Names {
		size := 1
		for _, l := range n {
			size += len(l) + 1
			if len(l) == 0 || len(l) > 63 {
				return nil, api.ErrLabel
			}
		}
		if size > 255 {
			return nil, api.ErrName
		}
	}
	if len(b) > 65535 {
		return nil, api.ErrLong
	}
	return b, api.OK
}

func pick[T any](r *rand.Rand, l ...T) T { return l[r.Intn(len(l))] }

func word(r *rand.Rand, sizes ...int) string {
	b := make([]byte, pick(r, sizes...))
	for i := range b {
		b[i] = pick(r, 'a', 'A', 'z', 'Z', '0', '9', '@', '[', '`', '{', '/', ':', '.', 0, 255, byte(r.Intn(256)))
	}
	return string(b)
}

func someName(r *rand.Rand) api.Name {
	var n api.Name
	if r.Intn(6) == 0 {
		return append(slices.Repeat(api.Name{strings.Repeat("n", 63)}, 3), word(r, 60, 61, 62))
	}
	for range pick(r, 0, 1, 1, 2, 3, 4) {
		n = append(n, word(r, 1, 1, 2, 3, 5, 61, 62, 63, pick(r, 1, 0, 64, 65)))
	}
	return n
}

func someNum(r *rand.Rand) uint32 {
	return pick(r, 0, 1, 10, 255, 256, 65535, 65536, math.MaxUint32, r.Uint32(), r.Uint32()>>16, r.Uint32()>>24)
}

// some makes data that are of a type, or nearly so.
func some(r *rand.Rand, t api.Type) api.Data {
	var counts [4]int
	switch t {
	case api.A:
		counts = [4]int{0, 0, 0, 4}
	case api.AAAA:
		counts = [4]int{0, 0, 0, 16}
	case api.NS, api.CNAME, api.PTR:
		counts = [4]int{1, 0, 0, 0}
	case api.SOA:
		counts = [4]int{2, 5, 0, 0}
	case api.MX:
		counts = [4]int{1, 1, 0, 0}
	case api.SRV:
		counts = [4]int{1, 3, 0, 0}
	case api.TXT:
		counts = [4]int{0, 0, 1 + r.Intn(4), 0}
	case api.CAA:
		counts = [4]int{0, 1, 2, 0}
	default:
		counts = [4]int{0, 0, 0, r.Intn(20)}
	}
	if r.Intn(8) == 0 {
		i := r.Intn(4)
		counts[i] = max(0, counts[i]+pick(r, 1, -1))
	}
	var d api.Data
	for range counts[0] {
		d.Names = append(d.Names, someName(r))
	}
	for range counts[1] {
		d.Nums = append(d.Nums, someNum(r)>>pick(r, 0, 16, 24))
	}
	for i := range counts[2] {
		if t == api.CAA && i == 0 && r.Intn(4) > 0 {
			d.Texts = append(d.Texts, "aZ0123456789bY9z"[:pick(r, 1, 5, 15, 16)])
			continue
		}
		d.Texts = append(d.Texts, word(r, 0, 1, 2, 3, 15, 16, 255, 256, r.Intn(300)))
	}
	d.Raw = []byte(word(r, counts[3]))
	return d
}

func someType(r *rand.Rand) api.Type {
	return pick(r, pick(r, own...), pick(r, own...), pick(r, own...), pick(r, bare...), pick(r, none...))
}

// P5.1 by the model.

func TestModel(t *testing.T) {
	r := rand.New(rand.NewSource(5))
	seen := map[api.Errno]int{}
	for range 40000 {
		typ := someType(r)
		d := some(r, typ)
		want, err := model(typ, d)
		seen[err]++
		if e := rdata.Check(typ, d); e != err {
			t.Fatalf("Check(%d, %v) = %d, not %d", typ, d, e, err)
		}
		if b, e := rdata.Bytes(typ, d); e != err || !bytes.Equal(b, want) {
			t.Fatalf("Bytes(%d, %v) = %v, %d, not %v, %d", typ, d, b, e, want, err)
		}
	}
	for _, e := range []api.Errno{api.OK, api.ErrType, api.ErrData, api.ErrLabel, api.ErrName} {
		if seen[e] < 100 {
			t.Errorf("%d was seen %d times", e, seen[e])
		}
	}
}

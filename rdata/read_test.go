package rdata_test

import (
	"bytes"
	"math/rand"
	"strings"
	"testing"

	"nomenclator/api"
	"nomenclator/rdata"
)

// P5.2: what Read refuses.

func TestReadRefuses(t *testing.T) {
	long := strings.Repeat("a", 63)
	bytes255 := "\x3f" + long + "\x3f" + long + "\x3f" + long + "\x3d" + long[:61] + "\x00"
	bytes256 := "\x3f" + long + "\x3f" + long + "\x3f" + long + "\x3e" + long[:62] + "\x00"
	nums := strings.Repeat("\x00", 20)
	for i, c := range []struct {
		t api.Type
		b string
	}{
		{api.A, ""}, {api.A, "\x01\x02\x03"}, {api.A, "\x01\x02\x03\x04\x05"}, {api.AAAA, ""}, {api.AAAA, "\x01\x02\x03\x04"}, {api.AAAA, "0123456789abcde"}, {api.AAAA, "0123456789abcdefg"},
		{api.NS, ""}, {api.NS, "\x01"}, {api.NS, "\x01a"}, {api.NS, "\x02a\x00"}, {api.NS, "\x00\x00"}, {api.NS, "\x01a\x00\x00"}, {api.NS, "\xc0\x00"}, {api.NS, "\x01a\xc0\x00"}, {api.NS, "\x40" + long + "a\x00"}, {api.NS, bytes256}, {api.NS, bytes255[:254]}, {api.NS, bytes255 + "\x00"}, {api.CNAME, ""}, {api.CNAME, "\x00\x00"}, {api.PTR, ""}, {api.PTR, "\x00\x00"},
		{api.SOA, ""}, {api.SOA, "\x00"}, {api.SOA, "\x00\x00"}, {api.SOA, "\x00\x00" + nums[:19]}, {api.SOA, "\x00\x00" + nums + "\x00"}, {api.SOA, "\x01a\x00\x01" + nums}, {api.SOA, "\x01a\x01"}, {api.SOA, bytes256 + "\x00" + nums}, {api.SOA, "\x00" + bytes256 + nums}, {api.SOA, "\xc0\x00\x00" + nums}, {api.SOA, "\x00\xc0\x00" + nums},
		{api.MX, ""}, {api.MX, "\x00"}, {api.MX, "\x00\x0a"}, {api.MX, "\x00\x0a\x01"}, {api.MX, "\x00\x0a\x01a"}, {api.MX, "\x00\x0a\x00\x00"}, {api.MX, "\x00\x0a\xc0\x00"}, {api.MX, "\x00\x00" + bytes256},
		{api.SRV, ""}, {api.SRV, "\x00\x00\x00\x00\x00"}, {api.SRV, "\x00\x00\x00\x00\x00\x00"}, {api.SRV, "\x00\x00\x00\x00\x00\x00\x00\x00"}, {api.SRV, "\x00\x00\x00\x00\x00\x00\x01a"}, {api.SRV, "\x00\x00\x00\x00\x00\x00\xc0\x00"},
		{api.TXT, ""}, {api.TXT, "\x01"}, {api.TXT, "\x00\x01"}, {api.TXT, "\x01a\x02b"}, {api.TXT, "\xff" + strings.Repeat("x", 254)}, {api.TXT, strings.Repeat("\x00", 65536)},
		{api.CAA, ""}, {api.CAA, "\x00"}, {api.CAA, "\x00\x00"}, {api.CAA, "\x00\x00a"}, {api.CAA, "\x00\x01"}, {api.CAA, "\x00\x02a"}, {api.CAA, "\x00\x01-"}, {api.CAA, "\x00\x02a-x"}, {api.CAA, "\x00\x10" + strings.Repeat("a", 17)}, {api.CAA, "\x00\xff" + strings.Repeat("a", 255)}, {api.CAA, "\x00\x01a" + strings.Repeat("x", 65533)},
		{99, strings.Repeat("x", 65536)}, {api.OPT, strings.Repeat("x", 65536)}, {65535, strings.Repeat("x", 1<<20)},
	} {
		if d, e := rdata.Read(c.t, []byte(c.b)); e != api.ErrBytes || !empty(d) {
			t.Errorf("%d: Read(%d, %v) = %v, %d", i, c.t, c.b, d, e)
		}
	}
	if d, e := rdata.Read(api.NS, []byte(bytes255)); e != api.OK || len(d.Names) != 1 || len(d.Names[0]) != 4 {
		t.Errorf("Read(255 bytes) = %v, %d", d, e)
	}
	if d, e := rdata.Read(api.CAA, []byte("\x00\x01a"+strings.Repeat("x", 65532))); e != api.OK || len(d.Texts[1]) != 65532 {
		t.Errorf("Read(65535 bytes) = %d", e)
	}
}

// A byte too few, a byte too many: only what has no end of its own takes more, or fewer.

func TestReadEnds(t *testing.T) {
	for i, c := range good {
		if len(c.b) == 0 || c.t == api.TXT || c.t == api.CAA || c.t == api.OPT || c.t == 99 || c.t >= 127 {
			continue
		}
		for n := range len(c.b) {
			if d, e := rdata.Read(c.t, []byte(c.b[:n])); e != api.ErrBytes || !empty(d) {
				t.Errorf("%d: %d bytes: %v, %d", i, n, d, e)
			}
		}
		if d, e := rdata.Read(c.t, []byte(c.b+"\x00")); e != api.ErrBytes || !empty(d) {
			t.Errorf("%d: a byte more: %v, %d", i, d, e)
		}
	}
}

// readable tells whether bytes are data's, by a grammar of its own: it goes through them by hand.
func readable(t api.Type, b []byte) bool {
	if len(b) > 65535 {
		return false
	}
	skipName := func(b []byte) ([]byte, bool) {
		for size := 0; ; {
			if len(b) == 0 || b[0] > 63 || len(b) <= int(b[0]) && b[0] > 0 {
				return nil, false
			}
			n := int(b[0])
			size += n + 1
			b = b[n+1:]
			if n == 0 {
				return b, size <= 255
			}
		}
	}
	skip := func(b []byte, n int) ([]byte, bool) {
		if len(b) < n {
			return nil, false
		}
		return b[n:], true
	}
	ok := true
	switch t {
	case api.A:
		return len(b) == 4
	case api.AAAA:
		return len(b) == 16
	case api.NS, api.CNAME, api.PTR:
		b, ok = skipName(b)
	case api.SOA:
		if b, ok = skipName(b); ok {
			b, ok = skipName(b)
		}
		return ok && len(b) == 20
	case api.MX:
		if b, ok = skip(b, 2); ok {
			b, ok = skipName(b)
		}
	case api.SRV:
		if b, ok = skip(b, 6); ok {
			b, ok = skipName(b)
		}
	case api.TXT:
		ok = len(b) > 0
		for ok && len(b) > 0 {
			b, ok = skip(b, 1+int(b[0]))
		}
	case api.CAA:
		if len(b) < 2 || b[1] == 0 || b[1] > 15 || len(b) < 2+int(b[1]) {
			return false
		}
		for _, c := range b[2 : 2+b[1]] {
			ok = ok && ('0' <= c && c <= '9' || 'a' <= c && c <= 'z' || 'A' <= c && c <= 'Z')
		}
		return ok
	default:
		return true
	}
	return ok && len(b) == 0
}

// spoil changes bytes here and there, cuts them, or lays more behind them.
func spoil(r *rand.Rand, b []byte) []byte {
	b = bytes.Clone(b)
	switch r.Intn(4) {
	case 0:
		return b[:r.Intn(len(b)+1)]
	case 1:
		return append(b, byte(r.Intn(4)))
	case 2:
		if len(b) > 0 {
			b[r.Intn(len(b))] = pick(r, 0, 1, 2, 15, 16, 63, 64, 192, 255, byte(r.Intn(256)))
		}
	}
	return b
}

// P5.2, P5.4, P2: Read of Bytes is the data; bytes that are read are Bytes of what was read; all others are refused.

func TestReadFollows(t *testing.T) {
	r := rand.New(rand.NewSource(6))
	taken, refused := 0, 0
	for range 60000 {
		typ := pick(r, pick(r, own...), pick(r, own...), pick(r, bare...))
		d := some(r, typ)
		b, err := rdata.Bytes(typ, d)
		if err == api.OK {
			if again, e := rdata.Read(typ, b); e != api.OK || !same(again, d) {
				t.Fatalf("Read(%d, %v) = %v, %d, not %v", typ, b, again, e, d)
			}
		}
		b = spoil(r, b)
		d, e := rdata.Read(typ, b)
		if (e == api.OK) != readable(typ, b) || e != api.OK && (e != api.ErrBytes || !empty(d)) {
			t.Fatalf("Read(%d, %v) = %v, %d", typ, b, d, e)
		}
		if e != api.OK {
			refused++
			continue
		}
		taken++
		if back, e := rdata.Bytes(typ, d); e != api.OK || !bytes.Equal(back, b) {
			t.Fatalf("Bytes(%d, %v) = %v, %d, not %v", typ, d, back, e, b)
		}
	}
	if taken < 1000 || refused < 1000 {
		t.Errorf("%d taken, %d refused", taken, refused)
	}
}

// Short bytes, all of them, of few kinds.

func TestReadShort(t *testing.T) {
	kinds := []byte{0, 1, 2, 'a', '-', 64, 255}
	var walk func(b []byte)
	walk = func(b []byte) {
		for _, typ := range append([]api.Type{99}, own...) {
			d, e := rdata.Read(typ, b)
			if (e == api.OK) != readable(typ, b) {
				t.Fatalf("Read(%d, %v) = %v, %d", typ, b, d, e)
			}
			if back, _ := rdata.Bytes(typ, d); e == api.OK && !bytes.Equal(back, b) {
				t.Fatalf("Bytes(%d, %v) = %v, not %v", typ, d, back, b)
			}
		}
		if len(b) == 5 {
			return
		}
		for _, c := range kinds {
			walk(append(b, c))
		}
	}
	walk(make([]byte, 0, 5))
}

// Rule 4: what was read is memory of its own, and so is each list of it.

func TestReadMemory(t *testing.T) {
	for i, c := range good {
		b := make([]byte, len(c.b), len(c.b)+9)
		copy(b, c.b)
		one, _ := rdata.Read(c.t, b)
		two, _ := rdata.Read(c.t, b)
		if string(b) != c.b || !bytes.Equal(b[len(b):cap(b)], make([]byte, cap(b)-len(b))) {
			t.Errorf("%d: the bytes were changed", i)
		}
		for j := range b[:cap(b)] {
			b[:cap(b)][j] = 'X'
		}
		spread(one)
		if !same(two, c.d) {
			t.Errorf("%d: %v", i, two)
		}
	}
}

// Rule 4: the spare room of bytes is no part of them.

func TestReadSpareRoom(t *testing.T) {
	b := []byte("\x00\x0a\x01a\x00")
	for n := range b {
		if d, e := rdata.Read(api.MX, b[:n]); e != api.ErrBytes || !empty(d) {
			t.Errorf("%d bytes: %v, %d", n, d, e)
		}
	}
}

func FuzzRead(f *testing.F) {
	for _, c := range good {
		if len(c.b) < 400 {
			f.Add(uint16(c.t), []byte(c.b))
		}
	}
	f.Fuzz(func(t *testing.T, n uint16, b []byte) {
		typ := api.Type(n)
		d, e := rdata.Read(typ, b)
		if none := n == 0 || 128 <= n && n <= 255; none != (e == api.ErrType) || !none && (e == api.OK) != readable(typ, b) {
			t.Fatalf("Read(%d, %v) = %v, %d", n, b, d, e)
		}
		if e != api.OK {
			return
		}
		if back, e := rdata.Bytes(typ, d); e != api.OK || !bytes.Equal(back, b) {
			t.Fatalf("Bytes(%d, %v) = %v, %d", n, d, back, e)
		}
	})
}

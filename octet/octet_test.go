package octet_test

import (
	"bytes"
	"math"
	"strings"
	"testing"

	"nomenclator/api"
	"nomenclator/octet"
)

// places are numbers at and beyond the edges of three to seven bytes, and of the kind int.
var places = []int{math.MinInt, math.MinInt + 1, -65536, -4, -3, -2, -1, 0, 1, 2, 3, 4, 5, 6, 7, 8, 9, 65536, math.MaxInt - 4, math.MaxInt - 1, math.MaxInt}

// P1.1: Put16.

func TestPut16(t *testing.T) {
	for _, c := range []struct {
		n    int
		want string
	}{
		{0, "\x00\x00"}, {1, "\x00\x01"}, {255, "\x00\xff"}, {256, "\x01\x00"}, {258, "\x01\x02"}, {65280, "\xff\x00"}, {65534, "\xff\xfe"}, {65535, "\xff\xff"},
	} {
		if b, e := octet.Put16(c.n); string(b) != c.want || e != api.OK {
			t.Errorf("Put16(%d) = %v, %d", c.n, b, e)
		}
	}
}

func TestPut16Refuses(t *testing.T) {
	for _, n := range []int{-1, -65535, -65536, math.MinInt, 65536, 65537, 131072, math.MaxInt32, math.MaxInt} {
		if b, e := octet.Put16(n); len(b) != 0 || e != api.ErrArg {
			t.Errorf("Put16(%d) = %v, %d", n, b, e)
		}
	}
}

// P1.1: Put32.

func TestPut32(t *testing.T) {
	for _, c := range []struct {
		n    uint32
		want string
	}{
		{0, "\x00\x00\x00\x00"}, {1, "\x00\x00\x00\x01"}, {16909060, "\x01\x02\x03\x04"}, {1 << 31, "\x80\x00\x00\x00"}, {math.MaxUint32 - 1, "\xff\xff\xff\xfe"}, {math.MaxUint32, "\xff\xff\xff\xff"},
	} {
		if b := octet.Put32(c.n); string(b) != c.want {
			t.Errorf("Put32(%d) = %v", c.n, b)
		}
	}
}

// P1.1: U16, U32.

func TestNumbersAtPlaces(t *testing.T) {
	b := []byte{1, 2, 3, 254, 255}
	for _, at := range places {
		n, ok := octet.U16(b, at)
		if in := 0 <= at && at <= 3; ok != in || in && n != int(b[at])*256+int(b[at+1]) || !in && n != 0 {
			t.Errorf("U16 at %d = %d, %v", at, n, ok)
		}
		m, ok := octet.U32(b, at)
		if in := 0 <= at && at <= 1; ok != in || in && m != []uint32{16909310, 33816319}[at] || !in && m != 0 {
			t.Errorf("U32 at %d = %d, %v", at, m, ok)
		}
	}
}

func TestNumbersOfNothing(t *testing.T) {
	for _, b := range [][]byte{nil, {}, {7}} {
		for _, at := range places {
			if n, ok := octet.U16(b, at); n != 0 || ok {
				t.Errorf("U16(%v, %d) = %d, %v", b, at, n, ok)
			}
			if n, ok := octet.U32(b, at); n != 0 || ok {
				t.Errorf("U32(%v, %d) = %d, %v", b, at, n, ok)
			}
		}
	}
	if n, ok := octet.U32([]byte{1, 2, 3}, 0); n != 0 || ok {
		t.Error(n, ok)
	}
}

func TestNumbersLeaveSpareRoomAlone(t *testing.T) {
	b := []byte{1, 2, 3, 4}[:1]
	if n, ok := octet.U16(b, 0); n != 0 || ok {
		t.Error(n, ok)
	}
	if n, ok := octet.U32(b, 0); n != 0 || ok {
		t.Error(n, ok)
	}
}

// P1.1: Join.

func TestJoin(t *testing.T) {
	for _, c := range []struct {
		l    [][]byte
		want string
	}{
		{nil, ""}, {[][]byte{}, ""}, {[][]byte{nil}, ""}, {[][]byte{{}, nil, {}}, ""},
		{[][]byte{{1}}, "\x01"}, {[][]byte{{1}, nil, {2, 3}}, "\x01\x02\x03"}, {[][]byte{{3, 2}, {1}, {3, 2}}, "\x03\x02\x01\x03\x02"},
	} {
		if b := octet.Join(c.l); string(b) != c.want {
			t.Errorf("Join(%v) = %v", c.l, b)
		}
	}
}

func TestJoinIsNewMemory(t *testing.T) {
	one := []byte{1, 2, 3, 4}
	list := [][]byte{one[:2], one[2:3]}
	for _, l := range [][][]byte{list, list[:1], {nil, one[:2]}, {one[:0]}} {
		b := octet.Join(l)
		for i := range b[:cap(b)] {
			b[:cap(b)][i] = 9
		}
		if string(one) != "\x01\x02\x03\x04" || len(list[0]) != 2 || len(list[1]) != 1 {
			t.Fatal("what was handed in is changed", one)
		}
	}
}

// P1.2: Hex.

func TestHex(t *testing.T) {
	for _, c := range []struct {
		b    []byte
		want string
	}{
		{nil, ""}, {[]byte{}, ""}, {[]byte{0}, "00"}, {[]byte{9, 144}, "0990"}, {[]byte{10, 255}, "0aff"}, {[]byte{1, 35, 69, 103, 137, 171, 205, 239}, "0123456789abcdef"}, {[]byte{1, 2}[:1], "01"},
	} {
		if s := octet.Hex(c.b); s != c.want {
			t.Errorf("Hex(%v) = %q", c.b, s)
		}
	}
}

// P1.2: Unhex.

func TestUnhex(t *testing.T) {
	for _, c := range []struct {
		s, want string
	}{
		{"", ""}, {"00", "\x00"}, {"0aFF", "\x0a\xff"}, {"aBcDeF", "\xab\xcd\xef"}, {"AbCdEf", "\xab\xcd\xef"}, {"09f0", "\x09\xf0"}, {"9A", "\x9a"},
	} {
		if b, e := octet.Unhex(c.s); string(b) != c.want || e != api.OK {
			t.Errorf("Unhex(%q) = %v, %d", c.s, b, e)
		}
	}
}

func TestUnhexRefuses(t *testing.T) {
	for _, s := range []string{"0", "f", "000", "0g", "g0", " 0", "0 ", "00 ", "0 0 ", "0x", "-1", "+1", "\x00\x00", "00\n0", "00zz", "zz00", "é", "０", "\xff\xff", "/0", ":0", "@0", "G0", "`0"} {
		if b, e := octet.Unhex(s); len(b) != 0 || e != api.ErrDigits {
			t.Errorf("Unhex(%q) = %v, %d", s, b, e)
		}
	}
}

// worth is what a digit stands for, told another way than the package does.
func worth(c int) (int, bool) {
	switch {
	case '0' <= c && c <= '9':
		return c - '0', true
	case 'a' <= c && c <= 'f':
		return c - 'a' + 10, true
	case 'A' <= c && c <= 'F':
		return c - 'A' + 10, true
	}
	return 0, false
}

func TestUnhexOfAllPairs(t *testing.T) {
	for high := range 256 {
		for low := range 256 {
			b, e := octet.Unhex(string([]byte{byte(high), byte(low)}))
			x, xok := worth(high)
			y, yok := worth(low)
			if xok && yok {
				if len(b) != 1 || int(b[0]) != x*16+y || e != api.OK {
					t.Fatalf("%d %d: %v, %d", high, low, b, e)
				}
			} else if len(b) != 0 || e != api.ErrDigits {
				t.Fatalf("%d %d: %v, %d", high, low, b, e)
			}
		}
	}
}

func TestUnhexAtItsLimit(t *testing.T) {
	if b, e := octet.Unhex(strings.Repeat("7E", 65535)); !bytes.Equal(b, bytes.Repeat([]byte{126}, 65535)) || e != api.OK {
		t.Error(len(b), e)
	}
	for _, c := range []struct {
		s    string
		want api.Errno
	}{
		{strings.Repeat("0", 131069), api.ErrDigits},
		{strings.Repeat("0", 131069) + "g", api.ErrDigits},
		{strings.Repeat("x", 131070), api.ErrDigits},
		{strings.Repeat("0", 131071), api.ErrLong},
		{strings.Repeat("x", 131071), api.ErrLong},
		{strings.Repeat("0", 131072), api.ErrLong},
		{strings.Repeat("0", 1<<20), api.ErrLong},
	} {
		if b, e := octet.Unhex(c.s); len(b) != 0 || e != c.want {
			t.Errorf("%d bytes: %d bytes, %d", len(c.s), len(b), e)
		}
	}
}

// P1.4: what was written is read so.

func TestPut16IsReadAgain(t *testing.T) {
	for n := range 65536 {
		b, _ := octet.Put16(n)
		if m, ok := octet.U16(b, 0); m != n || !ok || len(b) != 2 {
			t.Fatal(n, m, ok)
		}
		if m := octet.New(b).U16(); m != n {
			t.Fatal(n, m)
		}
	}
}

func TestPut32IsReadAgain(t *testing.T) {
	n := uint32(0)
	for range 1 << 17 {
		b := octet.Put32(n)
		if m, ok := octet.U32(b, 0); m != n || !ok || len(b) != 4 {
			t.Fatal(n, m, ok)
		}
		if m := octet.New(b).U32(); m != n {
			t.Fatal(n, m)
		}
		n = n*1664525 + 1013904223
	}
}

func TestUnhexOfHexIsTheText(t *testing.T) {
	all := make([]byte, 0, 65535)
	for i := range 65535 {
		all = append(all, byte(i*7+i>>8))
	}
	for _, size := range []int{0, 1, 2, 3, 255, 256, 65534, 65535} {
		s := octet.Hex(all[:size])
		for _, s := range []string{s, strings.ToUpper(s)} {
			if b, e := octet.Unhex(s); !bytes.Equal(b, all[:size]) || e != api.OK {
				t.Error(size, e)
			}
		}
	}
}

// Rule 4: an answer is new memory, from call to call, too.

func TestAnswersAreNewMemory(t *testing.T) {
	for _, call := range []func() []byte{
		func() []byte { b, _ := octet.Put16(258); return b },
		func() []byte { return octet.Put32(258) },
		func() []byte { b, _ := octet.Unhex("0102"); return b },
		func() []byte { return octet.Join([][]byte{{1}, {2}}) },
	} {
		first, second := call(), call()
		want := bytes.Clone(second)
		for i := range first[:cap(first)] {
			first[:cap(first)][i] = 9
		}
		if !bytes.Equal(second, want) || !bytes.Equal(call(), want) {
			t.Error(second, call())
		}
	}
}

package rtext_test

import (
	"bytes"
	"math/rand"
	"net/netip"
	"strings"
	"testing"

	"nomenclator/api"
	"nomenclator/rtext"
)

// eight tells the bytes of eight numbers.
func eight(nums ...int) []byte {
	b := make([]byte, 16)
	for i, n := range nums {
		b[2*i], b[2*i+1] = byte(n>>8), byte(n)
	}
	return b
}

// told are addresses with their texts.
var told = []struct {
	b []byte
	s string
}{
	{[]byte{0, 0, 0, 0}, "0.0.0.0"},
	{[]byte{255, 255, 255, 255}, "255.255.255.255"},
	{[]byte{1, 20, 100, 9}, "1.20.100.9"},
	{[]byte{192, 0, 2, 1}, "192.0.2.1"},
	{eight(), "::"},
	{eight(0, 0, 0, 0, 0, 0, 0, 1), "::1"},
	{eight(1), "1::"},
	{eight(1, 0, 0, 0, 0, 0, 0, 2), "1::2"},
	{eight(1, 2, 3, 4, 5, 6, 7, 8), "1:2:3:4:5:6:7:8"},
	{eight(0, 2, 3, 4, 5, 6, 7, 8), "0:2:3:4:5:6:7:8"},
	{eight(1, 2, 3, 0, 5, 6, 7, 8), "1:2:3:0:5:6:7:8"},
	{eight(1, 2, 3, 4, 5, 6, 7, 0), "1:2:3:4:5:6:7:0"},
	{eight(0, 2, 0, 4, 0, 6, 0, 8), "0:2:0:4:0:6:0:8"},
	{eight(0, 0, 3, 4, 5, 6, 7, 8), "::3:4:5:6:7:8"},
	{eight(1, 2, 3, 4, 5, 6, 0, 0), "1:2:3:4:5:6::"},
	{eight(1, 2, 3, 0, 0, 6, 7, 8), "1:2:3::6:7:8"},
	{eight(0, 0, 3, 0, 0, 6, 0, 0), "::3:0:0:6:0:0"},
	{eight(1, 0, 0, 4, 0, 0, 7, 8), "1::4:0:0:7:8"},
	{eight(0, 0, 3, 0, 0, 0, 7, 8), "0:0:3::7:8"},
	{eight(0, 0, 3, 4, 5, 0, 0, 0), "0:0:3:4:5::"},
	{eight(0, 0, 0, 4, 0, 0, 0, 8), "::4:0:0:0:8"},
	{eight(0, 0, 0, 4, 0, 0, 0, 0), "0:0:0:4::"},
	{eight(0, 0, 0, 0, 5, 0, 0, 0), "::5:0:0:0"},
	{eight(0, 2, 0, 0, 5, 0, 7, 0), "0:2::5:0:7:0"},
	{eight(0, 0, 0, 0, 0, 0, 0x102, 0x304), "::102:304"},
	{eight(0, 0, 0, 0, 0, 0xffff, 0x102, 0x304), "::ffff:102:304"},
	{eight(0x2001, 0xdb8, 0, 0, 0, 0, 0, 1), "2001:db8::1"},
	{eight(0xabcd, 0xef01, 0x10, 0x100, 0x1000, 0xff, 0xf000, 0xa), "abcd:ef01:10:100:1000:ff:f000:a"},
	{eight(0x100, 0, 0xff00, 0, 0x1, 0, 0xff, 1), "100:0:ff00:0:1:0:ff:1"},
}

func TestAddress(t *testing.T) {
	for _, x := range told {
		if s, e := rtext.Address(x.b); e != api.OK || s != x.s {
			t.Errorf("Address(%v) = %q, %v, not %q", x.b, s, e, x.s)
		}
		if b, e := rtext.ParseAddress(x.s); e != api.OK || !bytes.Equal(b, x.b) {
			t.Errorf("ParseAddress(%q) = %v, %v, not %v", x.s, b, e, x.b)
		}
	}
}

func TestAddressRefuses(t *testing.T) {
	for n := range 40 {
		s, e := rtext.Address(make([]byte, n))
		if n == 4 || n == 16 {
			continue
		}
		if e != api.ErrData || s != "" {
			t.Errorf("Address of %d bytes = %q, %v", n, s, e)
		}
	}
	if s, e := rtext.Address(nil); e != api.ErrData || s != "" {
		t.Errorf("Address(nil) = %q, %v", s, e)
	}
}

// TestAddressRuns: all ways in which numbers are 0 or not, held against the runs looked for one by one.
func TestAddressRuns(t *testing.T) {
	for mask := range 256 {
		var nums []int
		var all []string
		for i := range 8 {
			n := (mask >> i & 1) * (i + 1)
			nums = append(nums, n)
			all = append(all, string(rune('0'+n)))
		}
		want := strings.Join(all, ":")
	search:
		for size := 8; size >= 2; size-- {
			for from := 0; from+size <= 8; from++ {
				if strings.Join(all[from:from+size], "") == strings.Repeat("0", size) {
					want = strings.Join(all[:from], ":") + "::" + strings.Join(all[from+size:], ":")
					break search
				}
			}
		}
		b := eight(nums...)
		if s, e := rtext.Address(b); e != api.OK || s != want {
			t.Errorf("Address(%v) = %q, %v, not %q", b, s, e, want)
		}
		for _, s := range []string{want, strings.Join(all, ":")} {
			if got, e := rtext.ParseAddress(s); e != api.OK || !bytes.Equal(got, b) {
				t.Errorf("ParseAddress(%q) = %v, %v", s, got, e)
			}
		}
	}
}

func TestParseAddress(t *testing.T) {
	for _, x := range []struct {
		s string
		b []byte
	}{
		{"0.0.0.0", []byte{0, 0, 0, 0}},
		{"255.0.10.100", []byte{255, 0, 10, 100}},
		{"::", eight()},
		{"0::", eight()},
		{"::0", eight()},
		{"0::0", eight()},
		{"::0:0:0:0:0:0:0", eight()},
		{"0000:0000:0000:0000:0000:0000:0000:0000", eight()},
		{"1:2:3:4:5:6:7::", eight(1, 2, 3, 4, 5, 6, 7, 0)},
		{"::2:3:4:5:6:7:8", eight(0, 2, 3, 4, 5, 6, 7, 8)},
		{"1:2:3::5:6:7:8", eight(1, 2, 3, 0, 5, 6, 7, 8)},
		{"0:0:0:0:0:0:0:1", eight(0, 0, 0, 0, 0, 0, 0, 1)},
		{"0001:002:03:4:5:6:7:00a", eight(1, 2, 3, 4, 5, 6, 7, 10)},
		{"ABCD:abcd:EfeF::fF", eight(0xabcd, 0xabcd, 0xefef, 0, 0, 0, 0, 0xff)},
		{"ffff:FFFF::", eight(0xffff, 0xffff)},
		{"1::2", eight(1, 0, 0, 0, 0, 0, 0, 2)},
	} {
		if b, e := rtext.ParseAddress(x.s); e != api.OK || !bytes.Equal(b, x.b) {
			t.Errorf("ParseAddress(%q) = %v, %v, not %v", x.s, b, e, x.b)
		}
	}
}

// refused are texts that are no addresses.
var refused = []string{
	"", " ", ".", "...", "....", "1", "1.2", "1.2.3", "1.2.3.", ".1.2.3", "1..2.3", "1.2.3.4.", ".1.2.3.4", "1.2.3.4.5",
	"01.2.3.4", "1.2.3.00", "1.2.3.04", "1.2.3.004", "1.2.3.256", "256.2.3.4", "1.2.3.999", "1.2.3.4294967296", "1.2.3.18446744073709551617",
	"+1.2.3.4", "-1.2.3.4", "1.2.3.-0", "1.2.3.0x4", "1.2.3.a", "1.2.3.4 ", " 1.2.3.4", "1. 2.3.4", "1.2.3.4\x00", "1.2.3.4\n", "1_0.2.3.4", "١.2.3.4", "1,2,3,4",
	":", ":::", "::::", ":1", "1:", "1:2", "1:2:3:4:5:6:7", "1:2:3:4:5:6:7:", ":2:3:4:5:6:7:8", ":1:2:3:4:5:6:7:8", "1:2:3:4:5:6:7:8:", "1:2:3:4:5:6:7:8:9",
	"1:2:3:4:5:6:7:8::", "::1:2:3:4:5:6:7:8", "1::2:3:4:5:6:7:8", "1:2:3:4::5:6:7:8", "1:2:3:4:5:6:7:8::9", "::1:2:3:4:5:6:7:8:9",
	"::1::", "1::2::3", "::1::2", "::::1", "1:::2", ":::1", "1:::", "::1:", ":1::", "1::2:",
	"00001::", "::00000", "12345::", "1:2:3:4:5:6:7:10000", "::g", "::G", "::-1", "::+1", "::0x1", "::1_0", ":: 1", "::1 ", " ::1", "::1%1", "::1%eth0", "::é", "::1/64", "[::1]",
	"::1.2.3.4", "::ffff:1.2.3.4", "1.2.3.4::", "1:2:3:4:5:6:1.2.3.4", "1.2.3::4", "1.2.3:4",
}

func TestParseAddressRefuses(t *testing.T) {
	for _, s := range refused {
		if b, e := rtext.ParseAddress(s); e != api.ErrData || len(b) != 0 {
			t.Errorf("ParseAddress(%q) = %v, %v", s, b, e)
		}
	}
	for _, s := range []string{strings.Repeat(":", 100000), strings.Repeat(".", 100000), strings.Repeat("1", 100000), strings.Repeat("0:", 100000), strings.Repeat("::", 1000), "::" + strings.Repeat("0", 100000)} {
		if b, e := rtext.ParseAddress(s); e != api.ErrData || len(b) != 0 {
			t.Errorf("ParseAddress of %d bytes = %v, %v", len(s), b, e)
		}
	}
}

// addressOf reads as the library does, which reads texts with zones and texts of both kinds in one, too.
func addressOf(s string) ([]byte, bool) {
	a, err := netip.ParseAddr(s)
	if err != nil || strings.Contains(s, "%") || strings.Contains(s, ":") && strings.Contains(s, ".") {
		return nil, false
	}
	return a.AsSlice(), true
}

func TestParseAddressAsTheLibrary(t *testing.T) {
	check := func(s string) {
		want, ok := addressOf(s)
		b, e := rtext.ParseAddress(s)
		if ok != (e == api.OK) || !ok && e != api.ErrData || !bytes.Equal(b, want) {
			t.Errorf("ParseAddress(%q) = %v, %v, not %v, %v", s, b, e, want, ok)
		}
	}
	var all func(s, alphabet string, left int)
	all = func(s, alphabet string, left int) {
		check(s)
		for i := 0; i < len(alphabet) && left > 0; i++ {
			all(s+alphabet[i:i+1], alphabet, left-1)
		}
	}
	all("", "0:.aG5", 5)
	all("", ":1", 10)
	all("1:2:3:4:", ":10", 8)
	all("25", ".05", 8)
	r := rand.New(rand.NewSource(6))
	pieces := []string{":", ":", ":", "::", "0", "1", "f", "00", "db8", "FFFF", "12345", ".", "255", "256", "%", "-", "+1", "_"}
	for range 200000 {
		s := ""
		for range r.Intn(17) {
			s += pieces[r.Intn(3+r.Intn(len(pieces)-2))]
		}
		check(s)
	}
	for range 50000 {
		x := told[r.Intn(len(told))].s
		at := r.Intn(len(x) + 1)
		check(x[:at] + pieces[r.Intn(len(pieces))] + x[at:])
		check(x[:at] + x[min(len(x), at+1):])
	}
}

// TestParseOfAddress: what is told is read again, and is the library's text, but for those that it tells as both kinds in one.
func TestParseOfAddress(t *testing.T) {
	r := rand.New(rand.NewSource(7))
	for range 50000 {
		b := make([]byte, 4+12*r.Intn(2))
		for i := range b {
			if r.Intn(3) == 0 {
				b[i] = byte(r.Intn(256))
			}
		}
		s, e := rtext.Address(b)
		if e != api.OK {
			t.Fatalf("Address(%v): %v", b, e)
		}
		a, _ := netip.AddrFromSlice(b)
		if !a.Is4In6() && a.String() != s {
			t.Fatalf("Address(%v) = %q, not %q", b, s, a)
		}
		if got, e := rtext.ParseAddress(s); e != api.OK || !bytes.Equal(got, b) {
			t.Fatalf("ParseAddress(%q) = %v, %v, not %v", s, got, e, b)
		}
	}
}

func TestAddressMemory(t *testing.T) {
	b := []byte{1, 2, 3, 4, 99, 98}
	s, _ := rtext.Address(b[:4])
	if s != "1.2.3.4" || !bytes.Equal(b, []byte{1, 2, 3, 4, 99, 98}) {
		t.Errorf("Address = %q of %v", s, b)
	}
	b[0] = 7
	if s != "1.2.3.4" {
		t.Errorf("an address changed with its bytes: %q", s)
	}
	for _, s := range []string{"1.2.3.4", "1::2", "1:2:3:4:5:6:7:8"} {
		x, _ := rtext.ParseAddress(s)
		want := bytes.Clone(x)
		for i := range x[:cap(x)] {
			x[:cap(x)][i] = 77
		}
		if y, e := rtext.ParseAddress(s); e != api.OK || !bytes.Equal(y, want) {
			t.Errorf("ParseAddress(%q) again = %v, %v", s, y, e)
		}
	}
}

func FuzzParseAddress(f *testing.F) {
	for _, x := range told {
		f.Add(x.s)
	}
	for _, s := range refused {
		f.Add(s)
	}
	f.Fuzz(func(t *testing.T, s string) {
		want, ok := addressOf(s)
		b, e := rtext.ParseAddress(s)
		if ok != (e == api.OK) || !bytes.Equal(b, want) {
			t.Errorf("ParseAddress(%q) = %v, %v, not %v, %v", s, b, e, want, ok)
		}
	})
}

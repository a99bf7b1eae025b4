package name_test

import (
	"bytes"
	"math"
	"math/rand"
	"slices"
	"strings"
	"testing"

	"nomenclator/api"
	"nomenclator/name"
)

// P3.5: Bytes.

func TestBytes(t *testing.T) {
	long := strings.Repeat("a", 63)
	for _, c := range []struct {
		n    api.Name
		want string
	}{
		{nil, "\x00"}, {api.Name{}, "\x00"}, {of("a.b."), "\x01a\x01b\x00"}, {of("A.bc."), "\x01A\x02bc\x00"}, {api.Name{"."}, "\x01.\x00"}, {api.Name{"\x00", "\xff"}, "\x01\x00\x01\xff\x00"}, {api.Name{long}, "\x3f" + long + "\x00"}, {many("a", 127), strings.Repeat("\x01a", 127) + "\x00"},
	} {
		if b, e := name.Bytes(c.n); string(b) != c.want || e != api.OK {
			t.Errorf("Bytes(%q) = %q, %d", c.n, b, e)
		}
	}
	for _, n := range samples() {
		b, e := name.Bytes(n)
		if want := fault(n); e != want || e != api.OK && len(b) != 0 || e == api.OK && len(b) != name.Size(n) {
			t.Errorf("Bytes(%.300q) = %.300q, %d", n, b, e)
		}
	}
}

func TestBytesMemory(t *testing.T) {
	n := of("a.b.")
	first, _ := name.Bytes(n)
	second, _ := name.Bytes(n)
	for i := range first[:cap(first)] {
		first[:cap(first)][i] = 99
	}
	if string(second) != "\x01a\x01b\x00" || !slices.Equal(n, of("a.b.")) {
		t.Errorf("%q, %q", second, n)
	}
}

// P3.5: Read.

func TestRead(t *testing.T) {
	long := strings.Repeat("a", 63)
	for _, c := range []struct {
		b    string
		at   int
		n    api.Name
		next int
	}{
		{"\x00\x01a\x00", 1, of("a."), 4}, {"\x00", 0, nil, 1}, {"\x00\x00", 0, nil, 1}, {"\x00\x00", 1, nil, 2}, {"\x01a\x01b\x00", 0, of("a.b."), 5}, {"\x01a\x01b\x00", 2, of("b."), 5}, {"\x01a\x01b\x00", 4, nil, 5}, {"\x01a\x00\x01", 0, of("a."), 3}, {"\x01a\x00\xff\xff", 0, of("a."), 3}, {"\x01A\x00", 0, of("A."), 3}, {"\x01\x00\x00", 0, api.Name{"\x00"}, 3}, {"\x02\x01a\x00", 0, api.Name{"\x01a"}, 4}, {"\x02\x01a\x00", 1, of("a."), 4},
		{"\x3f" + long + "\x00", 0, api.Name{long}, 65}, {strings.Repeat("\x01a", 127) + "\x00", 0, many("a", 127), 255}, {"xy" + strings.Repeat("\x01a", 127) + "\x00z", 2, many("a", 127), 257}, {strings.Repeat("\xff", 70000) + "\x01a\x00", 70000, of("a."), 70003},
	} {
		if n, next, e := name.Read([]byte(c.b), c.at); !slices.Equal(n, c.n) || next != c.next || e != api.OK {
			t.Errorf("Read(%.300q, %d) = %q, %d, %d", c.b, c.at, n, next, e)
		}
	}
}

func TestReadRefuses(t *testing.T) {
	long := strings.Repeat("a", 64)
	name256, name257 := "\x3f"+long[:63]+"\x3f"+long[:63]+"\x3f"+long[:63]+"\x3e"+long[:62]+"\x00", strings.Repeat("\x01a", 128)+"\x00"
	if len(name256) != 256 || len(name257) != 257 {
		t.Fatal(len(name256), len(name257))
	}
	for _, c := range []struct {
		b    string
		at   int
		want api.Errno
	}{
		{"", 0, api.ErrArg}, {"", -1, api.ErrArg}, {"", 1, api.ErrArg}, {"\x00", 1, api.ErrArg}, {"\x00", 2, api.ErrArg}, {"\x00", -1, api.ErrArg}, {"\x00", math.MinInt, api.ErrArg}, {"\x00", math.MaxInt, api.ErrArg}, {"\x01a\x00", 3, api.ErrArg},
		{"\x01", 0, api.ErrBytes}, {"\x01a", 0, api.ErrBytes}, {"\x02a\x00", 0, api.ErrBytes}, {"\x01a\x01", 0, api.ErrBytes}, {"\x01a\x01b", 0, api.ErrBytes}, {"\x01a\x00", 1, api.ErrBytes}, {"\x00\x01", 1, api.ErrBytes}, {"\x3f" + long[:63], 0, api.ErrBytes}, {"\x3f" + long[:62], 0, api.ErrBytes},
		{"\x40" + long + "\x00", 0, api.ErrBytes}, {"\x40", 0, api.ErrBytes}, {"\x01a\x40" + long + "\x00", 0, api.ErrBytes}, {"\x80" + long + long + "\x00", 0, api.ErrBytes}, {"\xc0\x00", 0, api.ErrBytes}, {"\x00\x01a\xc0\x00", 1, api.ErrBytes}, {"\xff", 0, api.ErrBytes}, {"\x7f" + long + long + "\x00", 0, api.ErrBytes},
		{name256, 0, api.ErrBytes}, {name257, 0, api.ErrBytes}, {"\x00" + name256, 1, api.ErrBytes}, {strings.Repeat("\x01a", 127), 0, api.ErrBytes}, {strings.Repeat("\x01a", 50000) + "\x00", 0, api.ErrBytes},
	} {
		if n, next, e := name.Read([]byte(c.b), c.at); len(n) != 0 || next != 0 || e != c.want {
			t.Errorf("Read(%.300q, %d) = %.300q, %d, %d", c.b, c.at, n, next, e)
		}
	}
	if n, next, e := name.Read(nil, 0); len(n) != 0 || next != 0 || e != api.ErrArg {
		t.Errorf("Read of no bytes = %q, %d, %d", n, next, e)
	}
	if n, next, e := name.Read([]byte(name256), 64); len(n) != 3 || next != 256 || e != api.OK {
		t.Errorf("Read of the tail of a name that is too long = %q, %d, %d", n, next, e)
	}
}

// heard is what Read must answer.
func heard(b []byte, at int) (api.Name, int, api.Errno) {
	if at < 0 || at > len(b)-1 {
		return nil, 0, api.ErrArg
	}
	var n api.Name
	for at < len(b) {
		size := int(b[at])
		if size == 0 && fault(n) == api.OK {
			return n, at + 1, api.OK
		}
		if size == 0 || at+1+size > len(b) {
			break
		}
		n = append(n, string(b[at+1:at+1+size]))
		at += 1 + size
	}
	return nil, 0, api.ErrBytes
}

// heardSo compares Read with what it must answer.
func heardSo(t *testing.T, b []byte, at int) {
	t.Helper()
	want, place, f := heard(b, at)
	if n, next, e := name.Read(b, at); e != f || next != place || !slices.Equal(n, want) {
		t.Fatalf("Read(%q, %d) = %q, %d, %d, not %q, %d, %d", b, at, n, next, e, want, place, f)
	}
}

func TestReadAnyBytes(t *testing.T) {
	r := rand.New(rand.NewSource(5))
	alphabets := []string{"\x00\x01a", "\x00\x01\x02\x03abc", "\x00\x3e\x3f\x40\x41", "\x00\x01\x80\xc0\xff", "\x3d\x3e\x3f", "\x01\x02\x03\x04\x05\x06\x07\x08"}
	for i := range 60000 {
		a := alphabets[i%len(alphabets)]
		size := r.Intn(10)
		if i%5 == 0 {
			size = r.Intn(400)
		}
		b := make([]byte, size)
		for j := range b {
			b[j] = a[r.Intn(len(a))]
		}
		for _, at := range []int{-1, 0, 1, r.Intn(len(b) + 1), len(b) - 1, len(b), len(b) + 1} {
			heardSo(t, b, at)
		}
	}
}

func TestReadLeavesItsArgument(t *testing.T) {
	all := []byte("\x00\x01a\x00\x01b\x00")
	was := bytes.Clone(all)
	if n, next, e := name.Read(all[:4], 1); !slices.Equal(n, of("a.")) || next != 4 || e != api.OK {
		t.Errorf("%q, %d, %d", n, next, e)
	}
	if _, _, e := name.Read(all[:3], 1); e != api.ErrBytes {
		t.Errorf("the spare room is read: %d", e)
	}
	n, _, _ := name.Read(all, 1)
	if !bytes.Equal(all, was) {
		t.Errorf("what was handed in is %q", all)
	}
	clear(all)
	if !slices.Equal(n, of("a.")) {
		t.Errorf("what was handed in is kept: %q", n)
	}
}

// P3.6: Read of Bytes is the name, wherever they stand.

func TestReadOfBytes(t *testing.T) {
	for _, n := range names() {
		b, e := name.Bytes(n)
		if e != api.OK || len(b) != name.Size(n) {
			t.Fatalf("Bytes(%q) = %q, %d", n, b, e)
		}
		for _, round := range [][2]string{{"", ""}, {"", "\x00"}, {"abc", "\xff\xff"}, {"\x00", "\x3f"}} {
			all := round[0] + string(b) + round[1]
			if got, next, e := name.Read([]byte(all), len(round[0])); e != api.OK || next != len(round[0])+len(b) || !slices.Equal(got, n) {
				t.Fatalf("Read(%q, %d) = %q, %d, %d", all, len(round[0]), got, next, e)
			}
		}
		for cut := range b {
			if _, _, e := name.Read(b[:cut], 0); cut > 0 && e != api.ErrBytes || cut == 0 && e != api.ErrArg {
				t.Fatalf("Read of %q, cut at %d = %d", b, cut, e)
			}
		}
	}
}

func FuzzRead(f *testing.F) {
	for _, s := range []string{"", "\x00", "\x01a\x00", "\x01", "\x40", "\xc0\x00", strings.Repeat("\x01a", 128) + "\x00"} {
		f.Add([]byte(s), 0)
	}
	f.Fuzz(heardSo)
}

package squeeze_test

import (
	"bytes"
	"math"
	"math/rand"
	"slices"
	"strings"
	"testing"

	"nomenclator/api"
	"nomenclator/name"
	"nomenclator/squeeze"
)

// of tells the name of a text without escapes: its labels have a dot behind each.
func of(s string) api.Name {
	if s == "." {
		return nil
	}
	return strings.Split(strings.TrimSuffix(s, "."), ".")
}

// many tells a name of n labels.
func many(l string, n int) api.Name { return slices.Repeat(api.Name{l}, n) }

// whole tells a name's bytes without pointers.
func whole(n api.Name) []byte {
	var b []byte
	for _, l := range n {
		b = append(append(b, byte(len(l))), l...)
	}
	return append(b, 0)
}

// badNames are names that may not be, with the fault of each.
func badNames() map[string]struct {
	n    api.Name
	want api.Errno
} {
	type bad = struct {
		n    api.Name
		want api.Errno
	}
	x := strings.Repeat("x", 64)
	return map[string]bad{
		"no bytes":                      {api.Name{""}, api.ErrLabel},
		"no bytes behind":               {api.Name{"a", ""}, api.ErrLabel},
		"no bytes ahead":                {api.Name{"", "a"}, api.ErrLabel},
		"64 bytes":                      {api.Name{x}, api.ErrLabel},
		"64 bytes behind":               {api.Name{"a", x}, api.ErrLabel},
		"256 bytes":                     {api.Name{x[:63], x[:63], x[:63], x[:62]}, api.ErrName},
		"128 labels":                    {many("a", 128), api.ErrName},
		"too long, and a label's fault": {append(many("a", 128), ""), api.ErrLabel},
		"great":                         {many(x[:63], 2000), api.ErrName},
	}
}

// put writes a name, which must go well.
func put(t *testing.T, w *squeeze.Writer, n api.Name, back bool) {
	t.Helper()
	if e := w.Name(n, back); e != api.OK {
		t.Fatalf("Name(%.300q, %v) = %d", n, back, e)
	}
}

// pad fills a writer with bytes up to a length.
func pad(t *testing.T, w *squeeze.Writer, size int) {
	t.Helper()
	if e := w.Bytes(bytes.Repeat([]byte{7}, size-w.Len())); e != api.OK || w.Len() != size {
		t.Fatalf("Bytes up to %d = %d", size, e)
	}
}

// has tells what a writer must have from a place on.
func has(t *testing.T, w *squeeze.Writer, from int, want string) {
	t.Helper()
	b := w.All()
	if len(b) != w.Len() || len(b) < from || string(b[from:]) != want {
		t.Fatalf("from %d on of %d bytes (Len %d): %q, not %q", from, len(b), w.Len(), b[min(from, len(b)):], want)
	}
}

// P9.1: New, Bytes, Name, Len, All.

func TestNew(t *testing.T) {
	w := squeeze.New()
	if w == nil || w.Len() != 0 || len(w.All()) != 0 {
		t.Fatal("a new writer has bytes")
	}
	put(t, w, of("a."), true)
	if other := squeeze.New(); other == w || other.Len() != 0 || len(other.All()) != 0 {
		t.Error("two new writers share their bytes")
	} else {
		put(t, other, of("b."), true)
		put(t, other, of("a."), true)
		has(t, other, 0, "\x01b\x00\x01a\x00")
	}
	has(t, w, 0, "\x01a\x00")
}

func TestBytes(t *testing.T) {
	w := squeeze.New()
	for _, c := range []struct {
		b    []byte
		want string
	}{
		{nil, ""}, {[]byte{}, ""}, {[]byte{1, 2, 3}, "\x01\x02\x03"}, {nil, "\x01\x02\x03"}, {[]byte{0}, "\x01\x02\x03\x00"}, {[]byte{255, 192}, "\x01\x02\x03\x00\xff\xc0"},
	} {
		if e := w.Bytes(c.b); e != api.OK {
			t.Fatalf("Bytes(%v) = %d", c.b, e)
		}
		has(t, w, 0, c.want)
	}
}

func TestNames(t *testing.T) {
	x := strings.Repeat("x", 63)
	type step struct {
		n    api.Name
		back bool
		want string
	}
	for title, steps := range map[string][]step{
		"the chapter's":                         {{of("a.b."), true, "\x01a\x01b\x00"}, {of("c.b."), true, "\x01c\xc0\x02"}, {of("B."), true, "\x01B\x00"}, {of("a.b."), true, "\xc0\x00"}, {of("a.b."), false, "\x01a\x01b\x00"}},
		"the whole name, a tail, a tail's tail": {{of("a.b.c."), true, "\x01a\x01b\x01c\x00"}, {of("a.b.c."), true, "\xc0\x00"}, {of("b.c."), true, "\xc0\x02"}, {of("c."), true, "\xc0\x04"}, {of("d.c."), true, "\x01d\xc0\x04"}, {of("e.d.c."), true, "\x01e\xc0\x0d"}},
		"a tail that is no head":                {{of("a.b."), true, "\x01a\x01b\x00"}, {of("a."), true, "\x01a\x00"}, {of("b.a."), true, "\x01b\xc0\x05"}, {of("a.b."), true, "\xc0\x00"}},
		"written without, kept all the same":    {{of("a.b."), false, "\x01a\x01b\x00"}, {of("a.b."), true, "\xc0\x00"}, {of("c.b."), false, "\x01c\x01b\x00"}, {of("c.b."), true, "\xc0\x07"}, {of("b."), true, "\xc0\x02"}},
		"with pointers, kept all the same":      {{of("b."), true, "\x01b\x00"}, {of("a.b."), true, "\x01a\xc0\x00"}, {of("c.a.b."), true, "\x01c\xc0\x03"}, {of("c.a.b."), false, "\x01c\x01a\x01b\x00"}, {of("c.a.b."), true, "\xc0\x07"}, {of("a.b."), true, "\xc0\x03"}},
		"the least place of several":            {{of("a.b."), false, "\x01a\x01b\x00"}, {of("a.b."), false, "\x01a\x01b\x00"}, {of("b."), false, "\x01b\x00"}, {of("c.a.b."), false, "\x01c\x01a\x01b\x00"}, {of("a.b."), true, "\xc0\x00"}, {of("b."), true, "\xc0\x02"}, {of("d.c.a.b."), true, "\x01d\xc0\x0d"}, {of("d.a.b."), true, "\x01d\xc0\x00"}},
		"great and small letters":               {{of("a.b."), true, "\x01a\x01b\x00"}, {of("A.b."), true, "\x01A\xc0\x02"}, {of("a.B."), true, "\x01a\x01B\x00"}, {of("A.B."), true, "\x01A\xc0\x0b"}, {of("A.b."), true, "\xc0\x05"}, {of("a.b."), true, "\xc0\x00"}, {of("a.B."), true, "\xc0\x09"}, {of("A.B."), true, "\xc0\x0e"}},
		"the root alone":                        {{nil, true, "\x00"}, {nil, true, "\x00"}, {api.Name{}, false, "\x00"}, {of("a."), true, "\x01a\x00"}, {nil, true, "\x00"}, {of("a."), true, "\xc0\x03"}, {nil, false, "\x00"}},
		"a label within a label's bytes":        {{api.Name{"\x01b"}, true, "\x02\x01b\x00"}, {of("b."), true, "\x01b\x00"}, {api.Name{"a\x01b"}, true, "\x03a\x01b\x00"}, {of("a.b."), true, "\x01a\xc0\x04"}, {api.Name{"a.b"}, true, "\x03a.b\x00"}, {of("a.b."), true, "\xc0\x0c"}},
		"any bytes":                             {{api.Name{"\x00", "\xff\xc0"}, true, "\x01\x00\x02\xff\xc0\x00"}, {api.Name{"\x00\x00", "\xff\xc0"}, true, "\x02\x00\x00\xc0\x02"}, {api.Name{"\xff\xc0"}, true, "\xc0\x02"}, {api.Name{"\x00", "\xff\xc0"}, true, "\xc0\x00"}, {api.Name{"\xc3\x84"}, true, "\x02\xc3\x84\x00"}, {api.Name{"\xc3\xa4"}, true, "\x02\xc3\xa4\x00"}},
		"the longest label":                     {{api.Name{x}, true, "?" + x + "\x00"}, {api.Name{"a", x}, true, "\x01a\xc0\x00"}, {api.Name{x[1:]}, true, ">" + x[1:] + "\x00"}},
		"one label again and again":             {{of("a.a.a."), true, "\x01a\x01a\x01a\x00"}, {of("a.a.a.a."), true, "\x01a\xc0\x00"}, {of("a.a."), true, "\xc0\x02"}, {of("a."), true, "\xc0\x04"}},
	} {
		w := squeeze.New()
		for i, s := range steps {
			at := w.Len()
			if e := w.Name(s.n, s.back); e != api.OK || string(w.All()[at:]) != s.want || w.Len() != at+len(s.want) {
				t.Fatalf("%s, %d: Name(%q, %v) at %d = %d, %q, not %q", title, i, s.n, s.back, at, e, w.All()[at:], s.want)
			}
		}
	}
}

func TestTheLongestNames(t *testing.T) {
	w := squeeze.New()
	put(t, w, many("a", 127), true)
	has(t, w, 0, strings.Repeat("\x01a", 127)+"\x00")
	put(t, w, many("a", 127), true)
	put(t, w, many("a", 126), true)
	put(t, w, many("a", 1), true)
	has(t, w, 255, "\xc0\x00\xc0\x02\xc0\xfc")
	put(t, w, many("a", 127), false)
	has(t, w, 261, strings.Repeat("\x01a", 127)+"\x00")
}

// Bytes that nobody gave as a name are no name's.
func TestBytesAreNoNames(t *testing.T) {
	w := squeeze.New()
	if e := w.Bytes(whole(of("a.b."))); e != api.OK {
		t.Fatal(e)
	}
	put(t, w, of("a.b."), true)
	put(t, w, of("a.b."), true)
	has(t, w, 5, "\x01a\x01b\x00\xc0\x05")
}

func TestNameRefuses(t *testing.T) {
	for title, c := range badNames() {
		for _, back := range []bool{true, false} {
			for _, size := range []int{0, 5, 65535} {
				w := squeeze.New()
				pad(t, w, size)
				if e := w.Name(c.n, back); e != c.want {
					t.Errorf("%s, behind %d bytes: Name = %d, not %d", title, size, e, c.want)
				}
				has(t, w, size, "")
			}
		}
	}
}

// Rule 3: nothing of a name that was refused is kept.
func TestNameRefusedKeepsNothing(t *testing.T) {
	for title, c := range badNames() {
		w := squeeze.New()
		w.Name(c.n, true)
		w.Name(c.n, false)
		put(t, w, of("b."), true)
		put(t, w, of("a."), true)
		put(t, w, of("x.a."), true)
		if b := w.All(); string(b) != "\x01b\x00\x01a\x00\x01x\xc0\x03" {
			t.Errorf("%s: %q", title, b)
		}
	}
}

func TestBytesAtTheLimit(t *testing.T) {
	for _, ahead := range []int{0, 1, 2, 16384, 65533, 65534, 65535} {
		left := 65535 - ahead
		for _, size := range []int{0, 1, 2, left - 1, left, left + 1, left + 2, 65535, 65536, 200000} {
			if size < 0 {
				continue
			}
			w := squeeze.New()
			pad(t, w, ahead)
			was := w.All()
			b := bytes.Repeat([]byte{9}, size)
			e := w.Bytes(b)
			if size <= left && (e != api.OK || !bytes.Equal(w.All(), append(was, b...))) {
				t.Errorf("%d bytes behind %d: %d", size, ahead, e)
			}
			if size > left && (e != api.ErrLong || !bytes.Equal(w.All(), was)) {
				t.Errorf("%d bytes behind %d: %d", size, ahead, e)
			}
		}
	}
}

func TestNameAtTheLimit(t *testing.T) {
	for _, c := range []struct {
		n    api.Name
		back bool
		size int
	}{
		{nil, true, 1}, {nil, false, 1}, {of("q."), true, 3}, {of("q."), false, 3}, {of("a.b."), true, 2}, {of("a.b."), false, 5}, {of("b."), true, 2}, {of("b."), false, 3}, {of("c.b."), true, 4}, {of("c.b."), false, 5}, {many("q", 127), true, 255}, {many("q", 127), false, 255}, {append(many("q", 125), "a", "b"), true, 252}, {append(many("q", 125), "a", "b"), false, 255},
	} {
		for over := -1; over <= 1; over++ {
			w := squeeze.New()
			put(t, w, of("a.b."), true)
			pad(t, w, 65535-c.size+over)
			was := w.All()
			e := w.Name(c.n, c.back)
			if over <= 0 && (e != api.OK || w.Len() != len(was)+c.size || !bytes.Equal(w.All()[:len(was)], was)) {
				t.Errorf("Name(%.20q, %v) behind %d: %d, %d", c.n, c.back, len(was), e, w.Len())
			}
			if over > 0 && (e != api.ErrLong || !bytes.Equal(w.All(), was)) {
				t.Errorf("Name(%.20q, %v) behind %d: %d, %d", c.n, c.back, len(was), e, w.Len())
			}
		}
	}
	w := squeeze.New()
	put(t, w, of("a.b."), true)
	pad(t, w, 65535)
	for _, n := range []api.Name{nil, of("a.b."), of("b."), of("c."), many("a", 127)} {
		for _, back := range []bool{true, false} {
			if e := w.Name(n, back); e != api.ErrLong {
				t.Errorf("Name(%.20q, %v) behind 65,535 bytes: %d", n, back, e)
			}
		}
	}
	if e := w.Bytes(nil); e != api.OK || w.Len() != 65535 {
		t.Error(e)
	}
}

// Places below 16,384 alone can be pointed to.

func TestTailsAtTheReach(t *testing.T) {
	for _, first := range []bool{true, false} {
		w := squeeze.New()
		pad(t, w, 16383)
		put(t, w, of("a.b."), first) // at 16,383, its tail b. at 16,385
		put(t, w, of("a.b."), true)
		put(t, w, of("c.a.b."), true)
		put(t, w, of("b."), true)
		put(t, w, of("b."), true)
		put(t, w, of("c.b."), true)
		put(t, w, of("c.a.b."), true)
		has(t, w, 16383, "\x01a\x01b\x00"+"\xff\xff"+"\x01c\xff\xff"+"\x01b\x00"+"\x01b\x00"+"\x01c\x01b\x00"+"\x01c\xff\xff")
	}
	w := squeeze.New()
	pad(t, w, 16384)
	for range 2 {
		put(t, w, of("a.b."), true)
		put(t, w, of("a.b."), false)
	}
	has(t, w, 16384, strings.Repeat("\x01a\x01b\x00", 4))
	if e := w.Cut(16380); e != api.OK {
		t.Fatal(e)
	}
	put(t, w, of("x.a.b."), true) // a.b. at 16,382, b. at 16,384
	put(t, w, of("a.b."), true)
	put(t, w, of("b."), true)
	put(t, w, of("x.a.b."), true)
	has(t, w, 16380, "\x01x\x01a\x01b\x00\xff\xfe\x01b\x00\xff\xfc")
	for _, at := range []int{16381, 16382, 16383, 16384, 16385} {
		w := squeeze.New()
		pad(t, w, at)
		put(t, w, of("b."), true)
		put(t, w, of("b."), true)
		want := "\x01b\x00\x01b\x00"
		if at < 16384 {
			want = "\x01b\x00\xff" + string([]byte{byte(at)})
		}
		has(t, w, at, want)
	}
}

// P9.2: Set.

func TestSet(t *testing.T) {
	for _, size := range []int{0, 1, 2, 3, 12, 65534, 65535} {
		for _, at := range []int{math.MinInt, -65536, -3, -2, -1, 0, 1, size - 3, size - 2, size - 1, size, size + 1, 65536, math.MaxInt - 1, math.MaxInt} {
			for _, n := range []int{math.MinInt, -65536, -1, 0, 1, 255, 256, 258, 65534, 65535, 65536, 65537, 1 << 32, math.MaxInt} {
				w := squeeze.New()
				pad(t, w, size)
				want := w.All()
				in := 0 <= at && at <= size-2 && 0 <= n && n <= 65535
				if in {
					want[at], want[at+1] = byte(n/256), byte(n%256)
				}
				e := w.Set(at, n)
				if (e == api.OK) != in || !in && e != api.ErrArg || !bytes.Equal(w.All(), want) || w.Len() != size {
					t.Fatalf("Set(%d, %d) of %d bytes = %d", at, n, size, e)
				}
			}
		}
	}
}

func TestSetTwice(t *testing.T) {
	w := squeeze.New()
	pad(t, w, 4)
	w.Set(0, 258)
	w.Set(1, 772)
	has(t, w, 0, "\x01\x03\x04\x07")
	if e := w.Bytes([]byte{8}); e != api.OK {
		t.Error(e)
	}
	has(t, w, 0, "\x01\x03\x04\x07\x08")
	if e := w.Set(3, 65535); e != api.OK {
		t.Error(e)
	}
	has(t, w, 0, "\x01\x03\x04\xff\xff")
}

// What is kept is what Name was given, whatever is written into its bytes.

func TestSetIntoAName(t *testing.T) {
	w := squeeze.New()
	put(t, w, of("a.b."), true)
	put(t, w, of("c.b."), true)
	for at := range w.Len() - 1 {
		if e := w.Set(at, 257); e != api.OK {
			t.Fatal(e)
		}
	}
	size := w.Len()
	put(t, w, of("a.b."), true)
	put(t, w, of("b."), true)
	put(t, w, of("c.b."), true)
	put(t, w, api.Name{"\x01"}, true)
	has(t, w, 0, strings.Repeat("\x01", size)+"\xc0\x00\xc0\x02\xc0\x05\x01\x01\x00")
}

func TestBytesIntoAName(t *testing.T) {
	w := squeeze.New()
	put(t, w, of("a.b.c."), true)
	if e := w.Cut(3); e != api.OK {
		t.Fatal(e)
	}
	pad(t, w, 7)
	put(t, w, of("c."), true)     // c. began at 4: it is kept no more
	put(t, w, of("b.c."), true)   // b.c. began at 2, ahead of the cut
	put(t, w, of("a.b.c."), true) // a.b.c. at 0
	put(t, w, of("x.c."), true)
	has(t, w, 0, "\x01a\x01\x07\x07\x07\x07\x01c\x00\xc0\x02\xc0\x00\x01x\xc0\x07")
}

// P9.2: Cut.

func TestCut(t *testing.T) {
	for _, size := range []int{0, 1, 7, 65535} {
		for _, at := range []int{math.MinInt, -65536, -2, -1, 0, 1, size / 2, size - 1, size, size + 1, size + 2, 65536, math.MaxInt} {
			w := squeeze.New()
			pad(t, w, size)
			want := w.All()
			in := 0 <= at && at <= size
			if in {
				want = want[:at]
			}
			e := w.Cut(at)
			if (e == api.OK) != in || !in && e != api.ErrArg || !bytes.Equal(w.All(), want) || w.Len() != len(want) {
				t.Fatalf("Cut(%d) of %d bytes = %d", at, size, e)
			}
		}
	}
}

func TestNamesBehindACut(t *testing.T) {
	for _, c := range []struct {
		at   int
		want string
	}{
		// Ahead of it stand, of a.b.: a.b. at 0, b. at 2; of c.b. (with a pointer): c.b. at 5; of d. (without): d. at 9.
		{0, "\x01d\x00\x01c\x01b\x00\xc0\x05\x01a\xc0\x05"},
		{1, "\x01\x01d\x00\x01c\x01b\x00\xc0\x06\xc0\x00"},
		{2, "\x01a\x01d\x00\x01c\x01b\x00\xc0\x07\xc0\x00"},
		{3, "\x01a\x01\x01d\x00\x01c\xc0\x02\xc0\x02\xc0\x00"},
		{4, "\x01a\x01b\x01d\x00\x01c\xc0\x02\xc0\x02\xc0\x00"},
		{5, "\x01a\x01b\x00\x01d\x00\x01c\xc0\x02\xc0\x02\xc0\x00"},
		{6, "\x01a\x01b\x00\x01\x01d\x00\xc0\x05\xc0\x02\xc0\x00"},
		{8, "\x01a\x01b\x00\x01c\xc0\x01d\x00\xc0\x05\xc0\x02\xc0\x00"},
		{9, "\x01a\x01b\x00\x01c\xc0\x02\x01d\x00\xc0\x05\xc0\x02\xc0\x00"},
		{10, "\x01a\x01b\x00\x01c\xc0\x02\x01\xc0\x09\xc0\x05\xc0\x02\xc0\x00"},
		{12, "\x01a\x01b\x00\x01c\xc0\x02\x01d\x00\xc0\x09\xc0\x05\xc0\x02\xc0\x00"},
	} {
		w := squeeze.New()
		put(t, w, of("a.b."), true)
		put(t, w, of("c.b."), true)
		put(t, w, of("d."), false)
		has(t, w, 0, "\x01a\x01b\x00\x01c\xc0\x02\x01d\x00")
		if e := w.Cut(c.at); e != api.OK {
			t.Fatal(e)
		}
		for _, n := range []string{"d.", "c.b.", "b.", "a.b."} {
			put(t, w, of(n), true)
		}
		has(t, w, 0, c.want)
	}
}

// A place that was not kept, for a lesser one was, is not kept when that one is gone either; what is written then is.
func TestCutAndWriteAgain(t *testing.T) {
	w := squeeze.New()
	pad(t, w, 2)
	put(t, w, of("a."), false) // 2
	put(t, w, of("a."), false) // 5
	w.Cut(5)
	put(t, w, of("a."), true)
	w.Cut(3)
	put(t, w, of("a."), true)
	w.Cut(2)
	put(t, w, nil, true)
	put(t, w, of("a."), true) // 3
	put(t, w, of("a."), true)
	has(t, w, 0, "\x07\x07\x00\x01a\x00\xc0\x03")
	if e := w.Cut(8); e != api.OK {
		t.Fatal(e)
	}
	w.Cut(0)
	put(t, w, of("a."), true)
	has(t, w, 0, "\x01a\x00")
}

// Rule 3: what is refused has changed nothing.
func TestRefusedChangesNothing(t *testing.T) {
	w := squeeze.New()
	put(t, w, of("a.b."), true)
	want := w.All()
	for _, e := range []api.Errno{w.Cut(-1), w.Cut(6), w.Set(-1, 0), w.Set(4, 0), w.Set(0, -1), w.Set(0, 65536), w.Set(-1, -1), w.Cut(math.MaxInt), w.Cut(math.MinInt)} {
		if e != api.ErrArg || !bytes.Equal(w.All(), want) {
			t.Fatal(e, w.All())
		}
	}
	if e := w.Bytes(make([]byte, 65531)); e != api.ErrLong || !bytes.Equal(w.All(), want) {
		t.Fatal(e, w.Len())
	}
	put(t, w, of("a.b."), true)
	put(t, w, of("b."), true)
	has(t, w, 5, "\xc0\x00\xc0\x02")
}

// Rule 5: what is no writer.

func TestNoWriter(t *testing.T) {
	real := squeeze.New()
	put(t, real, of("a.b."), true)
	twin := *real
	for title, w := range map[string]*squeeze.Writer{"nil": nil, "a zero": {}, "new": new(squeeze.Writer), "a copy": &twin} {
		for _, n := range []api.Name{nil, of("a."), {""}, many("a", 128)} {
			if a, b := w.Name(n, true), w.Name(n, false); a != api.ErrNil || b != api.ErrNil {
				t.Errorf("%s: Name(%.20q) = %d, %d", title, n, a, b)
			}
		}
		for _, b := range [][]byte{nil, {1}, make([]byte, 65536)} {
			if e := w.Bytes(b); e != api.ErrNil {
				t.Errorf("%s: Bytes of %d = %d", title, len(b), e)
			}
		}
		for _, at := range []int{-1, 0, 1, 3, 65536} {
			for _, n := range []int{-1, 0, 65535, 65536} {
				if e := w.Set(at, n); e != api.ErrNil {
					t.Errorf("%s: Set(%d, %d) = %d", title, at, n, e)
				}
			}
			if e := w.Cut(at); e != api.ErrNil {
				t.Errorf("%s: Cut(%d) = %d", title, at, e)
			}
		}
		if w.Len() != 0 || len(w.All()) != 0 {
			t.Errorf("%s: %d, %v", title, w.Len(), w.All())
		}
	}
	has(t, real, 0, "\x01a\x01b\x00")
	put(t, real, of("b."), true)
	has(t, real, 5, "\xc0\x02")
}

// Rule 4: what was handed in is neither changed nor kept, what is told is new.

func TestWhatIsHandedInIsLeftAlone(t *testing.T) {
	w := squeeze.New()
	room := []byte{1, 2, 3, 4}
	b := room[:2]
	w.Bytes(b)
	if !bytes.Equal(room, []byte{1, 2, 3, 4}) {
		t.Error("changed:", room)
	}
	clear(room)
	has(t, w, 0, "\x01\x02")
	labels := api.Name{"a", "b", "c", "d"}
	n := labels[:2]
	put(t, w, n, true)
	if !slices.Equal(labels, api.Name{"a", "b", "c", "d"}) {
		t.Error("changed:", labels)
	}
	labels[0], labels[1], labels[2] = "x", "y", "z"
	put(t, w, of("a.b."), true)
	put(t, w, of("y."), true)
	has(t, w, 2, "\x01a\x01b\x00\xc0\x02\x01y\x00")
	w.Bytes(room[:1])
	room[0] = 9
	w.Set(0, 258)
	w.Bytes(nil)
	if !bytes.Equal(room, []byte{9, 0, 0, 0}) {
		t.Error("changed:", room)
	}
}

func TestWhatIsToldIsNew(t *testing.T) {
	w := squeeze.New()
	put(t, w, of("a.b."), true)
	want := string(w.All())
	one, two := w.All(), w.All()
	for i := range one[:cap(one)] {
		one[:cap(one)][i] = 99
	}
	_ = append(one, 98, 98)
	if string(two) != want {
		t.Error("two answers share memory:", two)
	}
	has(t, w, 0, want)
	put(t, w, of("c.b."), true)
	w.Set(0, 65535)
	w.Cut(3)
	pad(t, w, 40)
	if string(two) != want {
		t.Error("an answer hangs on what is done later:", two)
	}
	// The spare room of what was cut off is not told either.
	w.Cut(1)
	short := w.All()
	for _, c := range short[1:cap(short)] {
		if c != 0 {
			t.Error("spare room tells what was there:", short[:cap(short)])
		}
	}
}

// plain is a writer told another way: it keeps all that is kept in a list, and looks for tails one by one.
type plain struct {
	text  []byte
	tails []struct {
		n  api.Name
		at int
	}
}

// place tells the least place that is kept for a tail; -1, if there is none.
func (p *plain) place(n api.Name) int {
	least := -1
	for _, k := range p.tails {
		if slices.Equal(k.n, n) && (least < 0 || k.at < least) {
			least = k.at
		}
	}
	return least
}

func (p *plain) name(n api.Name, back bool) api.Errno {
	if e := name.Check(n); e != api.OK {
		return e
	}
	was := *p
	was.tails = slices.Clone(p.tails)
	text := slices.Clone(p.text)
	for i := range n {
		at := p.place(n[i:])
		if at >= 0 && back {
			text = append(text, 192+byte(at/256), byte(at%256))
			break
		}
		if at < 0 && len(text) < 16384 {
			p.tails = append(p.tails, struct {
				n  api.Name
				at int
			}{n[i:], len(text)})
		}
		text = append(append(text, byte(len(n[i]))), n[i]...)
		if i == len(n)-1 {
			text = append(text, 0)
		}
	}
	if len(n) == 0 {
		text = append(text, 0)
	}
	if len(text) > 65535 {
		*p = was
		return api.ErrLong
	}
	p.text = text
	return api.OK
}

func (p *plain) bytes(b []byte) api.Errno {
	if len(p.text)+len(b) > 65535 {
		return api.ErrLong
	}
	p.text = append(slices.Clone(p.text), b...)
	return api.OK
}

func (p *plain) set(at, n int) api.Errno {
	if n < 0 || n > 65535 || at < 0 || at > len(p.text)-2 {
		return api.ErrArg
	}
	p.text[at], p.text[at+1] = byte(n/256), byte(n%256)
	return api.OK
}

func (p *plain) cut(at int) api.Errno {
	if at < 0 || at > len(p.text) {
		return api.ErrArg
	}
	p.text = p.text[:at]
	left := p.tails[:0]
	for _, k := range p.tails {
		if k.at < at {
			left = append(left, k)
		}
	}
	p.tails = left
	return api.OK
}

// someName tells a name of few labels, so that tails come again.
func someName(r *rand.Rand) api.Name {
	labels := []string{"a", "A", "b", "bc", "\x00", "\x01a", "www", strings.Repeat("l", 63)}
	var n api.Name
	for range r.Intn(6) {
		n = append(n, labels[r.Intn(len(labels))])
	}
	return n
}

func TestWritersByChance(t *testing.T) {
	r := rand.New(rand.NewSource(9))
	for range 400 {
		w, p := squeeze.New(), &plain{}
		if r.Intn(2) == 0 {
			b := make([]byte, []int{12, 16200, 16370, 65200, 65500}[r.Intn(5)])
			w.Bytes(b)
			p.bytes(b)
		}
		for range 60 {
			var e, f api.Errno
			switch k := r.Intn(20); {
			case k < 14:
				n, back := someName(r), r.Intn(3) > 0
				e, f = w.Name(n, back), p.name(n, back)
			case k < 16:
				b := make([]byte, r.Intn(5))
				r.Read(b)
				e, f = w.Bytes(b), p.bytes(b)
			case k < 18:
				at, n := r.Intn(len(p.text)+4)-2, r.Intn(65536+40)-20
				e, f = w.Set(at, n), p.set(at, n)
			default:
				at := len(p.text) + 2 - r.Intn(20)
				e, f = w.Cut(at), p.cut(at)
			}
			if e != f || !bytes.Equal(w.All(), p.text) || w.Len() != len(p.text) {
				t.Fatalf("%d, not %d: %q, not %q", e, f, w.All(), p.text)
			}
		}
	}
}

// P9.4: what Name writes is read so, and is never longer than without pointers.
func TestWhatIsWrittenIsRead(t *testing.T) {
	r := rand.New(rand.NewSource(94))
	type kept struct {
		n         api.Name
		at, to    int
		unpointed bool
	}
	for round := range 300 {
		w := squeeze.New()
		if round%3 == 0 {
			pad(t, w, []int{12, 16300, 16383, 40000}[r.Intn(4)])
		}
		var all []kept
		for range 60 {
			n, back := someName(r), r.Intn(4) > 0
			if name.Check(n) != api.OK {
				continue
			}
			at := w.Len()
			put(t, w, n, back)
			if size := w.Len() - at; size > name.Size(n) || !back && size != name.Size(n) {
				t.Fatalf("%q has %d bytes", n, size)
			}
			all = append(all, kept{n, at, w.Len(), !back})
			switch r.Intn(6) {
			case 0: // bytes that are no name's, and are written over
				b := []byte{0, 0, 192, 63}
				w.Bytes(b)
				w.Set(w.Len()-4, r.Intn(65536))
			case 1: // a cut between two names
				last := all[len(all)-1-r.Intn(min(len(all), 2))]
				w.Cut(last.at)
				for len(all) > 0 && all[len(all)-1].at >= last.at {
					all = all[:len(all)-1]
				}
			}
		}
		b := w.All()
		for _, k := range all {
			if n, to, e := squeeze.Read(b, k.at, true); e != api.OK || to != k.to || !slices.Equal(n, k.n) {
				t.Fatalf("Read at %d = %q, %d, %d, not %q, %d", k.at, n, to, e, k.n, k.to)
			}
			if n, to, e := squeeze.Read(b, k.at, false); k.unpointed && (e != api.OK || to != k.to || !slices.Equal(n, k.n)) {
				t.Fatalf("Read without pointers at %d = %q, %d, %d, not %q, %d", k.at, n, to, e, k.n, k.to)
			}
		}
	}
}

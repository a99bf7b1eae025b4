package squeeze_test

import (
	"bytes"
	"math"
	"math/rand"
	"slices"
	"strings"
	"testing"

	"nomenclator/api"
	"nomenclator/name"
	"nomenclator/squeeze"
)

func reads(t *testing.T, b string, at int, back bool, want api.Name, behind int) {
	t.Helper()
	if n, to, e := squeeze.Read([]byte(b), at, back); e != api.OK || to != behind || !slices.Equal(n, want) {
		t.Errorf("Read(%.300q, %d, %v) = %.300q, %d, %d; want %.300q, %d", b, at, back, n, to, e, want, behind)
	}
}

func refuses(t *testing.T, b string, at int, back bool, want api.Errno) {
	t.Helper()
	if n, to, e := squeeze.Read([]byte(b), at, back); e != want || to != 0 || len(n) != 0 {
		t.Errorf("Read(%.300q, %d, %v) = %.300q, %d, %d; want %d", b, at, back, n, to, e, want)
	}
}

// P9.3: Read, at names that are there.

func TestReadWithout(t *testing.T) {
	x := strings.Repeat("x", 63)
	for _, c := range []struct {
		b      string
		at     int
		n      api.Name
		behind int
	}{
		{"\x00", 0, nil, 1}, {"\x00\x00", 1, nil, 2}, {"\xff\x00\xff", 1, nil, 2}, {"\x01a\x01b\x00", 0, of("a.b."), 5}, {"\x01a\x01b\x00", 2, of("b."), 5}, {"\x01a\x01b\x00", 4, nil, 5}, {"\x01A\x00", 0, of("A."), 3}, {"\x01a\x00\xc0\x00", 0, of("a."), 3}, {"\x02\x01a\x00", 1, of("a."), 4}, {"\x02\x01a\x00", 0, api.Name{"\x01a"}, 4}, {"\x02\xc0\x00\x00", 0, api.Name{"\xc0\x00"}, 4},
		{"\x3f" + x + "\x00", 0, api.Name{x}, 65}, {strings.Repeat("\x01a", 127) + "\x00", 0, many("a", 127), 255}, {strings.Repeat("\xff", 70000) + "\x01a\x00z", 70000, of("a."), 70003},
	} {
		reads(t, c.b, c.at, true, c.n, c.behind)
		reads(t, c.b, c.at, false, c.n, c.behind)
	}
}

func TestReadWith(t *testing.T) {
	for _, c := range []struct {
		b      string
		at     int
		n      api.Name
		behind int
	}{
		{"\x01a\x01b\x00\x01c\xc0\x02", 5, of("c.b."), 9},
		{"\x01a\x01b\x00\x01c\xc0\x02zz", 5, of("c.b."), 9},
		{"\x01a\x01b\x00\xc0\x00", 5, of("a.b."), 7},
		{"\x01a\x01b\x00\xc0\x02", 5, of("b."), 7},
		{"\x01a\x01b\x00\xc0\x04", 5, nil, 7},
		{"\x00\x01a\xc0\x00", 1, of("a."), 5},
		{"\x01a\x00\x01b\xc0\x00\x01c\xc0\x03", 7, of("c.b.a."), 11}, // two pointers: the place behind is the first one's
		{"\x01a\x00\xc0\x00\xc0\x03\xc0\x05", 7, of("a."), 9},        // a pointer to a pointer to a pointer
		{"\x02\x01a\x00\x01b\xc0\x01", 4, of("b.a."), 8},             // into a label
		{"\x00\xc0\x00\x01b\xc0\x01", 3, of("b."), 7},                // to a pointer to the root
		{"\x00\x02ab\x01c\xc0\x00\xc0\x04", 8, of("c."), 10},         // into the midst of another name
	} {
		reads(t, c.b, c.at, true, c.n, c.behind)
	}
	for _, place := range []int{255, 256, 16382, 16383} {
		b := strings.Repeat("\xff", place) + "\x01a\x00"
		b += "\x01b" + string([]byte{192 + byte(place/256), byte(place % 256)})
		reads(t, b, place+3, true, of("b.a."), place+7)
		refuses(t, b, place+3, false, api.ErrBytes)
		far := b[:place+3] + strings.Repeat("\xff", 70000) + b[place+3:]
		reads(t, far, place+70003, true, of("b.a."), place+70007)
	}
}

func TestReadAtPlaces(t *testing.T) {
	for _, back := range []bool{true, false} {
		for _, b := range []string{"", "\x00", "\x01a\x00"} {
			for _, at := range []int{math.MinInt, math.MinInt + 1, -65536, -2, -1, len(b) + 1, len(b) + 2, 65536, math.MaxInt - 1, math.MaxInt} {
				refuses(t, b, at, back, api.ErrArg)
			}
			refuses(t, b, len(b), back, api.ErrBytes) // a place, but no byte is there
		}
		if n, to, e := squeeze.Read(nil, 0, back); len(n) != 0 || to != 0 || e != api.ErrBytes {
			t.Error(n, to, e)
		}
	}
}

func TestFirstBytes(t *testing.T) {
	for first := range 256 {
		b := "\x00\x00" + string([]byte{byte(first)}) + strings.Repeat("\x01", first%64) + strings.Repeat("\x00", 300)
		for _, back := range []bool{true, false} {
			switch {
			case first == 0:
				reads(t, b, 2, back, nil, 3)
			case first < 64:
				reads(t, b, 2, back, api.Name{strings.Repeat("\x01", first)}, first+4)
			case first == 192 && back:
				reads(t, b, 2, back, nil, 4)
			default: // what is above 192 points behind here
				refuses(t, b, 2, back, api.ErrBytes)
			}
		}
	}
}

func TestPointersThatMayNotBe(t *testing.T) {
	for title, c := range map[string]struct {
		b  string
		at int
	}{
		"to itself":                              {"\xc0\x00", 0},
		"to itself, further on":                  {"\x00\xc0\x01", 1},
		"to the stretch's beginning":             {"\x01a\xc0\x00", 0},
		"to the stretch's beginning, second":     {"\x00\x01a\x01b\xc0\x01", 1},
		"into the stretch":                       {"\x01a\x01b\xc0\x02", 0},
		"into the stretch's label":               {"\x02\x00a\xc0\x01", 0},
		"to itself behind labels":                {"\x01a\xc0\x02", 0},
		"into itself":                            {"\x01a\xc0\x03\x00", 0},
		"behind":                                 {"\xc0\x02\x00", 0},
		"behind labels":                          {"\x01a\xc0\x04\x00", 0},
		"to the end":                             {"\x00\xc0\x03", 1},
		"beyond the end":                         {"\x00\xff\xff", 1},
		"two, one to the other":                  {"\xc0\x02\xc0\x00", 2},
		"two, one to the other, from the first":  {"\xc0\x02\xc0\x00", 0},
		"back, and then forth":                   {"\x01a\xc0\x04\x00\xc0\x00", 5},
		"back, and to that stretch's beginning":  {"\x01a\xc0\x00\x01b\xc0\x00", 4},
		"back, and on into where it began":       {"\x01a\x01b\xc0\x00", 2},
		"back, and by a label to where it began": {"\x03\x01a\x00\x01b\xc0\x00", 4},
		"back to a length that is none":          {"\x40\x00\xc0\x00", 2},
		"back to bytes that end":                 {"\x05a\xc0\x00", 2},
	} {
		for _, back := range []bool{true, false} {
			if n, to, e := squeeze.Read([]byte(c.b), c.at, back); e != api.ErrBytes || to != 0 || len(n) != 0 {
				t.Errorf("%s: Read(%q, %d, %v) = %q, %d, %d", title, c.b, c.at, back, n, to, e)
			}
		}
	}
}

// Where no pointers may be, none is read, wherever in the name it stands.
func TestReadNoPointers(t *testing.T) {
	for _, c := range []struct {
		b  string
		at int
	}{
		{"\x01a\x01b\x00\x01c\xc0\x02", 5}, {"\x00\xc0\x00", 1}, {"\x00\x01a\x01b\x01c\xc0\x00", 1},
	} {
		if _, _, e := squeeze.Read([]byte(c.b), c.at, true); e != api.OK {
			t.Errorf("Read(%q, %d, true) = %d", c.b, c.at, e)
		}
		refuses(t, c.b, c.at, false, api.ErrBytes)
	}
}

func TestBytesThatEnd(t *testing.T) {
	x := strings.Repeat("x", 63)
	for _, c := range []struct {
		b  string
		at int
	}{
		{"\x01", 0}, {"\x01a", 0}, {"\x02a", 0}, {"\x01a\x01", 0}, {"\x01a\x01b", 0}, {"\x00\x01", 1}, {"\x3f" + x, 0}, {"\x3f" + x[:62], 0}, {"\x00\xc0", 1}, {"\x00\xff", 1}, {"\x00\x01a\xc0", 1}, {"\xc0", 0}, {strings.Repeat("\x01a", 127), 0},
	} {
		refuses(t, c.b, c.at, true, api.ErrBytes)
		refuses(t, c.b, c.at, false, api.ErrBytes)
	}
	good := "\x01a\x02bc\x00\x03def\xc0\x02"
	for end := 6; end < len(good); end++ {
		refuses(t, good[:end], 6, true, api.ErrBytes)
	}
	reads(t, good, 6, true, of("def.bc."), len(good))
}

func TestSizesByPointers(t *testing.T) {
	x := strings.Repeat("x", 63)
	tail := "?" + x + "?" + x + "?" + x + "\x00" // 193 bytes with its 0
	ok := api.Name{x[:61], x, x, x}
	reads(t, tail+"="+x[:61]+"\xc0\x00", 193, true, ok, 193+62+2)
	reads(t, tail+"="+x[:61]+"\xc0\x00\xc0\xc1", 193+64, true, ok, 193+66)
	refuses(t, tail+">"+x[:62]+"\xc0\x00", 193, true, api.ErrBytes)
	refuses(t, tail+">"+x[:62]+"\xc0\x00\xc0\xc1", 193+65, true, api.ErrBytes)
	if name.Size(ok) != 255 {
		t.Fatal(name.Size(ok))
	}
	// One label a stretch, up to the longest name, and one more.
	b := []byte{0}
	last := 0
	for i := 1; i <= 130; i++ {
		at := len(b)
		b = append(b, 1, 'a', 192+byte(last/256), byte(last%256))
		last = at
		if i <= 127 {
			reads(t, string(b), at, true, many("a", i), at+4)
		} else {
			refuses(t, string(b), at, true, api.ErrBytes)
		}
	}
	for _, back := range []bool{true, false} {
		refuses(t, strings.Repeat("\x01a", 128)+"\x00", 0, back, api.ErrBytes)
		refuses(t, tail[:192]+">"+x[:62]+"\x00", 0, back, api.ErrBytes)
		reads(t, tail[:192]+"="+x[:61]+"\x00", 0, back, api.Name{x, x, x, x[:61]}, 255)
	}
}

// Reading ends, whatever the bytes are.
func TestReadEnds(t *testing.T) {
	b := []byte{0}
	for last := 0; len(b) < 65000; {
		at := len(b)
		b = append(b, 192+byte(last/256), byte(last%256))
		if at < 16384 {
			last = at
		}
	}
	for _, at := range []int{1, 3, 16381, 16383, 16385, 64999} {
		reads(t, string(b), at, true, nil, at+2)
	}
	b[0] = 64
	for _, at := range []int{1, 3, 16383, 64999} {
		refuses(t, string(b), at, true, api.ErrBytes)
	}
	for _, c := range []string{"\x01", "\x3f", "\xc0", "\xff", "\x01a", "\x00\xc0", "\xc0\x01\xc0\x03"} {
		b := []byte(strings.Repeat(c, 1<<20))
		for _, at := range []int{0, 1, 2, 16384, len(b) - 2, len(b)} {
			agrees(t, b, at)
		}
	}
}

// stretch tells the name at a place, stretch by stretch, as the document has it.
func stretch(b []byte, begin int) (n api.Name, behind int, pointed, ok bool) {
	for at := begin; at < len(b); {
		size := int(b[at])
		switch {
		case size == 0:
			return n, at + 1, pointed, true
		case size < 64 && at+size < len(b):
			if len(n) < 200 {
				n = append(n, string(b[at+1:at+1+size]))
			}
			at += size + 1
		case size >= 192 && at+1 < len(b) && (size-192)*256+int(b[at+1]) < begin:
			rest, _, _, ok := stretch(b, (size-192)*256+int(b[at+1]))
			return append(n, rest...), at + 2, true, ok
		default:
			return nil, 0, false, false
		}
	}
	return nil, 0, false, false
}

// agrees holds Read against the document's words.
func agrees(t *testing.T, b []byte, at int) {
	t.Helper()
	for _, back := range []bool{true, false} {
		var want api.Name
		behind, f := 0, api.ErrArg
		if 0 <= at && at <= len(b) {
			n, place, pointed, ok := stretch(b, at)
			if f = api.ErrBytes; ok && (back || !pointed) && name.Check(n) == api.OK {
				want, behind, f = n, place, api.OK
			}
		}
		if n, to, e := squeeze.Read(b, at, back); e != f || to != behind || !slices.Equal(n, want) {
			t.Fatalf("Read(%.300q, %d, %v) = %.300q, %d, %d, not %.300q, %d, %d", b, at, back, n, to, e, want, behind, f)
		}
	}
}

func TestReadAnyBytes(t *testing.T) {
	r := rand.New(rand.NewSource(93))
	alphabets := []string{"\x00\x01a\xc0", "\x00\x01\x02\x03\xc0\x05\x07", "\x00\x3e\x3f\x40\x41\xc0", "\x00\x01\x7f\x80\xbf\xc0\xc1\xff", "\x01\x01\xc0\x10\x20\x30", "\x3d\x3e\x3f\xc0\xc1\x00\x40\x80"}
	for i := range 60000 {
		a := alphabets[i%len(alphabets)]
		size := r.Intn(12)
		if i%5 == 0 {
			size = r.Intn(500)
		}
		b := make([]byte, size)
		for j := range b {
			b[j] = a[r.Intn(len(a))]
		}
		for _, at := range []int{-1, 0, 1, 2, r.Intn(len(b) + 1), len(b) / 2, len(b) - 2, len(b) - 1, len(b), len(b) + 1} {
			agrees(t, b, at)
		}
	}
}

// P2: what is read may be written, and is read again as it was.
func TestWhatIsReadIsWritten(t *testing.T) {
	r := rand.New(rand.NewSource(92))
	for range 20000 {
		b := make([]byte, 40)
		for j := range b {
			b[j] = "\x00\x01\x02\x03aB\xc0\x04\x08\x10"[r.Intn(10)]
		}
		at := r.Intn(len(b))
		n, _, e := squeeze.Read(b, at, true)
		if e != api.OK {
			continue
		}
		w := squeeze.New()
		if e := w.Name(n, true); e != api.OK || !bytes.Equal(w.All(), whole(n)) {
			t.Fatalf("%q: %d, %q", n, e, w.All())
		}
		reads(t, string(w.All()), 0, true, n, w.Len())
	}
}

// Rule 4: Read leaves what it is given alone, keeps nothing of it, reads no spare room, and what it tells is new.
func TestReadAndMemory(t *testing.T) {
	room := []byte("\x01a\x01b\x00\x01c\xc0\x02\x00\x00")
	was := slices.Clone(room)
	n, _, _ := squeeze.Read(room[:9], 5, true)
	again, _, _ := squeeze.Read(room[:9], 5, true)
	if !bytes.Equal(room, was) {
		t.Errorf("what was handed in is %q", room)
	}
	for end := 6; end < 9; end++ {
		if _, _, e := squeeze.Read(room[:end], 5, true); e != api.ErrBytes {
			t.Errorf("the spare room behind %d is read: %d", end, e)
		}
	}
	clear(room)
	if !slices.Equal(n, of("c.b.")) {
		t.Errorf("what was handed in is kept: %q", n)
	}
	for i := range n[:cap(n)] {
		n[:cap(n)][i] = "z"
	}
	if !slices.Equal(again, of("c.b.")) {
		t.Errorf("two answers share memory: %q", again)
	}
}

func FuzzRead(f *testing.F) {
	for _, s := range []string{"", "\x00", "\x01a\x01b\x00\x01c\xc0\x02", "\xc0\x00", "\x40", strings.Repeat("\x01a", 128) + "\x00"} {
		f.Add([]byte(s), 0)
		f.Add([]byte(s), 5)
	}
	f.Fuzz(agrees)
}

package name_test

import (
	"math"
	"math/rand"
	"slices"
	"strings"
	"testing"

	"nomenclator/api"
	"nomenclator/name"
)

// of is a name out of its labels with a dot behind each; the root of a dot alone.
func of(s string) api.Name {
	if s == "." {
		return nil
	}
	return strings.Split(strings.TrimSuffix(s, "."), ".")
}

// sized is a name that may be but for its size: labels of at most 63 bytes, of the letter, of just that size together.
func sized(letter string, size int) api.Name {
	var n api.Name
	for left := size - 1; left > 0; {
		l := min(63, left-1)
		if left-1-l == 1 { // one byte would be left, which is no label with its length
			l--
		}
		n = append(n, strings.Repeat(letter, l))
		left -= l + 1
	}
	return n
}

// many is a name of so many labels of one byte.
func many(letter string, count int) api.Name {
	return slices.Repeat(api.Name{letter}, count)
}

// samples are lists of labels at the edges, such among them as may not be.
func samples() []api.Name {
	long := strings.Repeat("a", 63)
	l := []api.Name{
		nil, {}, of("a."), of("A."), of("b."), of("a.b."), of("A.b."), of("a.B."), of("ab."), of("b.a."), of("x.a.b."), of("y.A.b."), of("a.b.c."), of("z.a."), of("a.a."), of("a.a.a."), of("c."), of("*."), of("*.b."), of("@.b."), of("[.b."), of("`.b."), of("{.b."), of("WWW.Example.Com."), of("www.example.com."), of("example.com."), of("xexample.com."), of("com."),
		{""}, {"", ""}, {"a", ""}, {"", "a"}, {"a", "", "b"}, {"\x00"}, {"\xff"}, {"a\x00"}, {"a\xff", "b"}, {"."}, {"a.b"}, {"a.b", "c"}, {"é"}, {"É"}, {"\\"}, {" "}, {"@"},
		{long}, {long, "b"}, {strings.ToUpper(long)}, {long + "a"}, {long + "a", "b"}, {"b", long + "a"}, {long, long, long, long}, {long, long, long}, {long, long, long, long[:61]}, {long, long, long, long[:62]},
		many("a", 127), many("A", 127), many("a", 128), many("b", 126), many("", 255), many("", 254), many("a", 600), {strings.Repeat("a", 70000)},
	}
	for _, size := range []int{63, 64, 65, 66, 128, 129, 130, 252, 253, 254, 255, 256, 257, 300} {
		l = append(l, sized("a", size), sized("B", size))
	}
	return l
}

// low is a text folded, told the long way.
func low(s string) string {
	b := []byte(s)
	for i, c := range b {
		if at := strings.IndexByte("ABCDEFGHIJKLMNOPQRSTUVWXYZ", c); at >= 0 {
			b[i] = "abcdefghijklmnopqrstuvwxyz"[at]
		}
	}
	return string(b)
}

// turned is a list of labels folded, the last one first.
func turned(n api.Name) []string {
	l := make([]string, len(n))
	for i, s := range n {
		l[len(n)-1-i] = low(s)
	}
	return l
}

// fault is what Check must answer.
func fault(n api.Name) api.Errno {
	size := 1
	for _, l := range n {
		if len(l) == 0 || len(l) > 63 {
			return api.ErrLabel
		}
		size += len(l) + 1
	}
	if size > 255 {
		return api.ErrName
	}
	return api.OK
}

// P3.1: Check.

func TestCheck(t *testing.T) {
	long := strings.Repeat("a", 63)
	for _, c := range []struct {
		n    api.Name
		want api.Errno
	}{
		{nil, api.OK}, {api.Name{}, api.OK}, {of("a."), api.OK}, {api.Name{long}, api.OK}, {api.Name{"\x00", ".", "\xff", " "}, api.OK},
		{api.Name{""}, api.ErrLabel}, {api.Name{"a", ""}, api.ErrLabel}, {api.Name{"", "a"}, api.ErrLabel}, {api.Name{long + "a"}, api.ErrLabel}, {api.Name{"a", long + "a"}, api.ErrLabel},
		{sized("a", 254), api.OK}, {sized("a", 255), api.OK}, {sized("a", 256), api.ErrName}, {sized("a", 257), api.ErrName},
		{many("a", 127), api.OK}, {many("a", 128), api.ErrName}, {many("a", 100000), api.ErrName},
		{append(sized("a", 256), ""), api.ErrLabel}, {append(sized("a", 256), long+"a"), api.ErrLabel}, {append(api.Name{""}, sized("a", 300)...), api.ErrLabel},
	} {
		if e := name.Check(c.n); e != c.want {
			t.Errorf("Check(%.300q) = %d", c.n, e)
		}
	}
	for _, n := range samples() {
		if e := name.Check(n); e != fault(n) {
			t.Errorf("Check(%.300q) = %d", n, e)
		}
	}
}

// P3.1: Size.

func TestSize(t *testing.T) {
	for _, c := range []struct {
		n    api.Name
		want int
	}{
		{nil, 1}, {api.Name{}, 1}, {of("a.b."), 5}, {of("a."), 3}, {api.Name{""}, 2}, {api.Name{"", "", "a"}, 5}, {api.Name{"é"}, 4}, {many("", 300), 301}, {many("a", 127), 255}, {many("a", 128), 257}, {api.Name{strings.Repeat("a", 70000)}, 70002},
	} {
		if size := name.Size(c.n); size != c.want {
			t.Errorf("Size(%.300q) = %d", c.n, size)
		}
	}
	for size := 3; size < 600; size++ {
		if got := name.Size(sized("a", size)); got != size {
			t.Errorf("Size of a name of %d = %d", size, got)
		}
	}
}

// P3.1: Same, Compare, Under, Common.

func TestCompareExamples(t *testing.T) {
	for _, c := range []struct {
		a, b string
		want int
	}{
		{"b.", "a.b.", -1}, {"a.b.", "c.", -1}, {"z.a.", "b.", -1}, {"A.b.", "a.B.", 0}, {".", ".", 0}, {".", "a.", -1}, {"a.", "A.", 0}, {"a.b.", "b.a.", 1}, {"ab.", "b.", -1}, {"b.a.", "a.b.a.", -1}, {"a.z.", "b.a.z.", -1}, {"b.z.", "c.a.z.", 1}, {"B.z.", "a.z.", 1}, {"a.z.", "ab.z.", -1}, {"[.z.", "A.z.", -1}, {"_.z.", "Z.z.", -1}, {"x.ab.", "x.a.", 1},
	} {
		a, b := of(c.a), of(c.b)
		if got := name.Compare(a, b); got != c.want {
			t.Errorf("Compare(%s, %s) = %d", c.a, c.b, got)
		}
		if got := name.Compare(b, a); got != -c.want {
			t.Errorf("Compare(%s, %s) = %d", c.b, c.a, got)
		}
		if got := name.Same(a, b); got != (c.want == 0) {
			t.Errorf("Same(%s, %s) = %t", c.a, c.b, got)
		}
	}
	if name.Compare(api.Name{"a.b"}, api.Name{"a", "b"}) != -1 || name.Same(api.Name{"a.b"}, api.Name{"a", "b"}) || name.Compare(api.Name{""}, nil) != 1 || name.Same(api.Name{""}, nil) || name.Compare(api.Name{"\xff"}, api.Name{"\x00"}) != 1 || name.Same(api.Name{"é"}, api.Name{"É"}) {
		t.Error("labels of other bytes")
	}
}

func TestUnderAndCommonExamples(t *testing.T) {
	for _, c := range []struct {
		n, top string
		under  bool
		common int
	}{
		{"a.b.", "b.", true, 1}, {"b.", "b.", true, 1}, {"ab.", "b.", false, 0}, {"b.", "a.b.", false, 1}, {"x.a.b.", "y.A.b.", false, 2}, {"x.a.b.", "A.B.", true, 2}, {".", ".", true, 0}, {"a.", ".", true, 0}, {".", "a.", false, 0}, {"a.b.c.", "a.x.c.", false, 1}, {"b.a.", "b.", false, 0}, {"a.a.a.", "a.a.", true, 2}, {"A.B.", "a.b.", true, 2},
	} {
		if got := name.Under(of(c.n), of(c.top)); got != c.under {
			t.Errorf("Under(%s, %s) = %t", c.n, c.top, got)
		}
		if got := name.Common(of(c.n), of(c.top)); got != c.common {
			t.Errorf("Common(%s, %s) = %d", c.n, c.top, got)
		}
		if got := name.Common(of(c.top), of(c.n)); got != c.common {
			t.Errorf("Common(%s, %s) = %d", c.top, c.n, got)
		}
	}
}

func TestComparedAll(t *testing.T) {
	l := samples()
	var folded [][]string
	for _, n := range l {
		folded = append(folded, turned(n))
	}
	for i, a := range l {
		for j, b := range l {
			x, y := folded[i], folded[j]
			order := slices.Compare(x, y)
			if got := name.Compare(a, b); got != order {
				t.Errorf("Compare(%.300q, %.300q) = %d", a, b, got)
			}
			if got := name.Same(a, b); got != (order == 0) {
				t.Errorf("Same(%.300q, %.300q) = %t", a, b, got)
			}
			common := 0
			for common < min(len(x), len(y)) && x[common] == y[common] {
				common++
			}
			if got := name.Common(a, b); got != common {
				t.Errorf("Common(%.300q, %.300q) = %d", a, b, got)
			}
			under := len(x) >= len(y) && slices.Equal(x[:len(y)], y)
			if got := name.Under(a, b); got != under {
				t.Errorf("Under(%.300q, %.300q) = %t", a, b, got)
			}
		}
	}
}

// P3.6: Compare is an order, in which a name stands ahead of all under it and these stand together; Under is that Common is the number of top's labels.

func TestOrder(t *testing.T) {
	l := samples()
	r := rand.New(rand.NewSource(1))
	for range 400 {
		n := make(api.Name, r.Intn(5))
		for i := range n {
			n[i] = []string{"a", "A", "b", "ab", "B", "", "a\x00", "\xff", "-", "_"}[r.Intn(10)]
		}
		l = append(l, n)
	}
	r.Shuffle(len(l), func(i, j int) { l[i], l[j] = l[j], l[i] })
	slices.SortStableFunc(l, name.Compare)
	for i, top := range l {
		inside := true
		for j, n := range l[i:] {
			c := name.Compare(top, n)
			if c > 0 || name.Compare(n, top) != -c || (c == 0) != name.Same(top, n) || name.Same(n, top) != (c == 0) {
				t.Fatalf("%.300q stands at %d, %.300q at %d: Compare %d", top, i, n, i+j, c)
			}
			if under := name.Under(n, top); under && !inside {
				t.Fatalf("%.300q is under %.300q, but others stand between", n, top)
			} else {
				inside = under
			}
			if name.Under(n, top) != (name.Common(n, top) == len(top)) || name.Common(n, top) != name.Common(top, n) {
				t.Fatalf("Under(%.300q, %.300q)", n, top)
			}
		}
		for _, n := range l[:i] {
			if name.Under(n, top) && !name.Same(n, top) {
				t.Fatalf("%.300q stands ahead of %.300q", n, top)
			}
		}
	}
}

// P3.1: Copy, Fold.

func TestCopyAndFold(t *testing.T) {
	for _, n := range samples() {
		was := slices.Clone(n)
		if got := name.Copy(n); !slices.Equal(got, was) {
			t.Errorf("Copy(%.300q) = %.300q", was, got)
		}
		got := name.Fold(n)
		if slices.Reverse(got); !slices.Equal(got, turned(was)) {
			t.Errorf("Fold(%.300q), turned = %.300q", was, got)
		}
		slices.Reverse(got)
		if !slices.Equal(n, was) || !name.Same(got, n) || !slices.Equal(name.Fold(got), got) {
			t.Errorf("Fold(%.300q), and once more", was)
		}
	}
	if n := name.Fold(api.Name{"WwW", "É", "@Z["}); !slices.Equal(n, api.Name{"www", "É", "@z["}) {
		t.Errorf("%q", n)
	}
}

// P3.2: Parent.

func TestParent(t *testing.T) {
	for n, want := range map[string]string{"a.b.": "b.", "a.": ".", "a.b.c.": "b.c.", "A.B.": "B.", "*.b.": "b."} {
		if got, e := name.Parent(of(n)); !slices.Equal(got, of(want)) || e != api.OK {
			t.Errorf("Parent(%s) = %q, %d", n, got, e)
		}
	}
	for _, n := range samples() {
		want := fault(n)
		if len(n) == 0 {
			want = api.ErrMissing
		}
		got, e := name.Parent(n)
		if e != want || e != api.OK && len(got) != 0 || e == api.OK && !slices.Equal(got, n[1:]) {
			t.Errorf("Parent(%.300q) = %.300q, %d", n, got, e)
		}
	}
}

// P3.2: Above.

func TestAbove(t *testing.T) {
	if n, e := name.Above(of("a.b.c."), 2); !slices.Equal(n, of("b.c.")) || e != api.OK {
		t.Errorf("%q, %d", n, e)
	}
	for _, n := range samples() {
		for _, depth := range []int{math.MinInt, -2, -1, 0, 1, 2, 3, len(n) - 1, len(n), len(n) + 1, math.MaxInt} {
			want := fault(n)
			if want == api.OK && (depth < 0 || depth > len(n)) {
				want = api.ErrArg
			}
			got, e := name.Above(n, depth)
			if e != want || e != api.OK && len(got) != 0 || e == api.OK && !slices.Equal(got, n[len(n)-depth:]) {
				t.Errorf("Above(%.300q, %d) = %.300q, %d", n, depth, got, e)
			}
		}
	}
}

// P3.2: Join.

func TestJoin(t *testing.T) {
	for _, c := range [][3]string{{"a.", "b.", "a.b."}, {".", ".", "."}, {".", "b.", "b."}, {"a.", ".", "a."}, {"A.b.", "C.d.", "A.b.C.d."}} {
		if n, e := name.Join(of(c[0]), of(c[1])); !slices.Equal(n, of(c[2])) || e != api.OK {
			t.Errorf("Join(%s, %s) = %q, %d", c[0], c[1], n, e)
		}
	}
	for _, c := range []struct {
		a, b api.Name
		want api.Errno
	}{
		{api.Name{""}, sized("b", 300), api.ErrLabel}, {sized("a", 300), api.Name{""}, api.ErrName}, {of("a."), api.Name{""}, api.ErrLabel}, {of("a."), sized("b", 256), api.ErrName},
		{sized("a", 128), sized("b", 128), api.OK}, {sized("a", 128), sized("b", 129), api.ErrName}, {sized("a", 255), nil, api.OK}, {nil, sized("b", 255), api.OK}, {of("a."), sized("b", 253), api.OK}, {of("a."), sized("b", 254), api.ErrName}, {of("a."), sized("b", 255), api.ErrName},
	} {
		if n, e := name.Join(c.a, c.b); e != c.want || e != api.OK && len(n) != 0 {
			t.Errorf("Join(%.300q, %.300q) = %.300q, %d", c.a, c.b, n, e)
		}
	}
	l := samples()
	for _, a := range l {
		for _, b := range l {
			both := append(append([]string(nil), a...), b...)
			want := fault(a)
			if want == api.OK {
				want = fault(b)
			}
			if want == api.OK {
				want = fault(both)
			}
			n, e := name.Join(a, b)
			if e != want || e != api.OK && len(n) != 0 || e == api.OK && !slices.Equal(n, both) {
				t.Errorf("Join(%.300q, %.300q) = %.300q, %d", a, b, n, e)
			}
		}
	}
}

// P3.2: Wild.

func TestWild(t *testing.T) {
	for n, want := range map[string]string{"b.": "*.b.", ".": "*.", "*.b.": "*.*.b.", "A.b.": "*.A.b."} {
		if got, e := name.Wild(of(n)); !slices.Equal(got, of(want)) || e != api.OK {
			t.Errorf("Wild(%s) = %q, %d", n, got, e)
		}
	}
	for size, want := range map[int]api.Errno{252: api.OK, 253: api.OK, 254: api.ErrName, 255: api.ErrName, 256: api.ErrName} {
		if _, e := name.Wild(sized("a", size)); e != want {
			t.Errorf("Wild of a name of the size %d = %d", size, e)
		}
	}
	for _, n := range samples() {
		with := append(api.Name{"*"}, n...)
		want := fault(n)
		if want == api.OK {
			want = fault(with)
		}
		got, e := name.Wild(n)
		if e != want || e != api.OK && len(got) != 0 || e == api.OK && !slices.Equal(got, with) {
			t.Errorf("Wild(%.300q) = %.300q, %d", n, got, e)
		}
	}
}

// P3.6: the parent of one label and a name joined is the name.

func TestParentOfJoin(t *testing.T) {
	for _, n := range samples() {
		for _, l := range []string{"a", "*", "Z", ".", strings.Repeat("x", 63)} {
			both, e := name.Join(api.Name{l}, n)
			if e != api.OK {
				continue
			}
			if got, e := name.Parent(both); e != api.OK || !slices.Equal(got, n) {
				t.Errorf("Parent of a Join of %q and %.300q = %.300q, %d", l, n, got, e)
			}
		}
	}
}

// Rule 4: what is answered is memory of its own, its spare room too, and what is handed in stays as it was.

// roomy is a name with room behind it, and the whole of what it lies in.
func roomy(s string) (api.Name, []string) {
	n := of(s)
	all := make([]string, len(n)+4)
	for i := range all {
		all[i] = "spare"
	}
	copy(all, n)
	return all[:len(n)], all
}

// scribble writes over an answer and all of its spare room, once it has seen that nothing that is another's lies there.
func scribble(t *testing.T, n api.Name) {
	t.Helper()
	for i := range n[:cap(n)] {
		if i >= len(n) && n[:cap(n)][i] != "" {
			t.Errorf("%q lies in the spare room", n[:cap(n)][i])
		}
		n[:cap(n)][i] = "ink"
	}
}

func TestMemory(t *testing.T) {
	calls := map[string]func(api.Name) (api.Name, api.Errno){
		"Copy":          func(n api.Name) (api.Name, api.Errno) { return name.Copy(n), api.OK },
		"Fold":          func(n api.Name) (api.Name, api.Errno) { return name.Fold(n), api.OK },
		"Parent":        name.Parent,
		"Above 0":       func(n api.Name) (api.Name, api.Errno) { return name.Above(n, 0) },
		"Above all":     func(n api.Name) (api.Name, api.Errno) { return name.Above(n, len(n)) },
		"Join ahead":    func(n api.Name) (api.Name, api.Errno) { return name.Join(n, of("x.")) },
		"Join behind":   func(n api.Name) (api.Name, api.Errno) { return name.Join(of("x."), n) },
		"Join, no head": func(n api.Name) (api.Name, api.Errno) { return name.Join(nil, n) },
		"Join, no tail": func(n api.Name) (api.Name, api.Errno) { return name.Join(n, nil) },
		"Join, itself":  func(n api.Name) (api.Name, api.Errno) { return name.Join(n, n) },
		"Wild":          name.Wild,
		"Relative":      func(n api.Name) (api.Name, api.Errno) { return name.Relative("x", n) },
		"Relative @":    func(n api.Name) (api.Name, api.Errno) { return name.Relative("@", n) },
		"Relative .":    func(n api.Name) (api.Name, api.Errno) { return name.Relative("x.", n) },
	}
	for s, call := range calls {
		for _, text := range []string{".", "a.", "A.B.", "a.B.c.D."} {
			n, all := roomy(text)
			was := slices.Clone(all)
			first, e := call(n)
			if e != api.OK && !(s == "Parent" && text == ".") {
				t.Errorf("%s of %s = %d", s, text, e)
			}
			second, _ := call(n)
			kept := slices.Clone(second)
			scribble(t, first)
			if !slices.Equal(all, was) {
				t.Errorf("%s of %s: what was handed in is %q", s, text, all)
			}
			if !slices.Equal(second, kept) {
				t.Errorf("%s of %s: two answers share memory", s, text)
			}
			for i := range all {
				all[i] = "ink"
			}
			if !slices.Equal(second, kept) {
				t.Errorf("%s of %s keeps what was handed in", s, text)
			}
		}
	}
}

func TestArgumentsStay(t *testing.T) {
	for _, text := range []string{".", "a.", "A.B.", "a.B.c.D."} {
		a, whole := roomy(text)
		b, other := roomy("X.B.")
		was, otherWas := slices.Clone(whole), slices.Clone(other)
		name.Check(a)
		name.Size(a)
		name.Same(a, b)
		name.Compare(a, b)
		name.Under(a, b)
		name.Common(a, b)
		name.Text(a)
		name.Bytes(a)
		if !slices.Equal(whole, was) || !slices.Equal(other, otherWas) {
			t.Errorf("what was handed in is %q, %q", whole, other)
		}
	}
}

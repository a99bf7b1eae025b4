package rdata_test

import (
	"bytes"
	"math/rand"
	"slices"
	"strings"
	"testing"

	"nomenclator/api"
	"nomenclator/rdata"
)

// spread writes over all that data's lists reach, their spare room too.
func spread(d api.Data) {
	for _, n := range d.Names[:cap(d.Names)] {
		for i := range n[:cap(n)] {
			n[:cap(n)][i] = "XX"
		}
	}
	for i := range d.Names[:cap(d.Names)] {
		d.Names[:cap(d.Names)][i] = api.Name{"YY"}
	}
	for i := range d.Nums[:cap(d.Nums)] {
		d.Nums[:cap(d.Nums)][i] = 77
	}
	for i := range d.Texts[:cap(d.Texts)] {
		d.Texts[:cap(d.Texts)][i] = "ZZ"
	}
	for i := range d.Raw[:cap(d.Raw)] {
		d.Raw[:cap(d.Raw)][i] = 'W'
	}
}

// roomy tells data whose lists lie in greater ones: the names' labels all in one, each with the next one's as its spare room.
func roomy(d api.Data) api.Data {
	var all []string
	for _, n := range d.Names {
		all = append(all, n...)
	}
	all = append(all, "spare")
	var c api.Data
	at := 0
	for _, n := range d.Names {
		c.Names = append(c.Names, api.Name(all[at:at+len(n)]))
		at += len(n)
	}
	c.Names = append(c.Names, api.Name{"spare"})[:len(d.Names)]
	c.Nums = append(slices.Clone(d.Nums), 99)[:len(d.Nums)]
	c.Texts = append(slices.Clone(d.Texts), "spare")[:len(d.Texts)]
	c.Raw = append(slices.Clone(d.Raw), 99)[:len(d.Raw)]
	return c
}

// whole has something in each field: it is of no type.
func whole() api.Data {
	return api.Data{Names: []api.Name{{"Ab", "C"}, nil, {"", strings.Repeat("Q", 300)}, {"\xc3\x89"}}, Nums: []uint32{1, 1 << 31}, Texts: []string{"A", "", strings.Repeat("T", 300)}, Raw: []byte("RAW")}
}

// P5.3: Fold.

func TestFold(t *testing.T) {
	d := whole()
	folded := whole()
	folded.Names = []api.Name{{"ab", "c"}, nil, {"", strings.Repeat("q", 300)}, {"\xc3\x89"}}
	for n := range 65536 {
		want := d
		switch n {
		case 2, 5, 6, 12, 15, 33:
			want = folded
		}
		if got := rdata.Fold(api.Type(n), d); !same(got, want) {
			t.Errorf("Fold(%d) = %v", n, got)
		}
	}
	for _, typ := range slices.Concat(own, bare, none) {
		if got := rdata.Fold(typ, api.Data{}); !empty(got) {
			t.Errorf("Fold(%d, nothing) = %v", typ, got)
		}
	}
	if !same(d, whole()) {
		t.Errorf("what was given was changed: %v", d)
	}
}

// P5.3: Copy.

func TestCopy(t *testing.T) {
	for _, d := range []api.Data{{}, whole(), raw(1, 2), {Names: []api.Name{nil}}, {Names: []api.Name{{""}}}, {Texts: []string{""}}, {Nums: []uint32{0}}} {
		if got := rdata.Copy(d); !same(got, d) {
			t.Errorf("Copy(%v) = %v", d, got)
		}
	}
}

// Rule 4: Copy, Fold and Bytes tell memory of their own.

func TestMemory(t *testing.T) {
	for _, d := range []api.Data{whole(), {Names: names("A.b.", "C.d."), Nums: []uint32{1, 2, 3, 4, 5}}} {
		for _, typ := range []api.Type{api.SOA, api.TXT, 99, 0} {
			given := roomy(d)
			one, two := rdata.Copy(given), rdata.Copy(given)
			foldedOne, foldedTwo := rdata.Fold(typ, given), rdata.Fold(typ, given)
			want := rdata.Fold(typ, d)
			spread(one)
			spread(foldedOne)
			if !same(given, d) || !same(two, d) || !same(foldedTwo, want) || given.Raw[:len(d.Raw)+1][len(d.Raw)] != 99 || given.Texts[:len(d.Texts)+1][len(d.Texts)] != "spare" || given.Nums[:len(d.Nums)+1][len(d.Nums)] != 99 || given.Names[:len(d.Names)+1][len(d.Names)][0] != "spare" {
				t.Errorf("%d: an answer shares memory with what was given, or with another", typ)
			}
			spread(given)
			if !same(two, d) || !same(foldedTwo, want) {
				t.Errorf("%d: an answer shares memory with what was given", typ)
			}
		}
	}
	for i, c := range good {
		given := roomy(c.d)
		one, _ := rdata.Bytes(c.t, given)
		two, _ := rdata.Bytes(c.t, given)
		for j := range one[:cap(one)] {
			one[:cap(one)][j] = 'X'
		}
		if !same(given, c.d) || string(two) != c.b {
			t.Errorf("%d: Bytes shares memory", i)
		}
		spread(given)
		if string(two) != c.b {
			t.Errorf("%d: Bytes shares memory with what was given", i)
		}
	}
}

// Names of one answer lie apart: what is laid behind one is not seen in the next.

func TestListsApart(t *testing.T) {
	read, _ := rdata.Read(api.SOA, []byte("\x01a\x01b\x00\x01c\x00"+strings.Repeat("\x00", 20)))
	for i, d := range []api.Data{rdata.Copy(roomy(api.Data{Names: names("a.b.", "c.")})), rdata.Fold(api.SOA, roomy(api.Data{Names: names("A.b.", "c.")})), read} {
		_ = append(d.Names[0], "x", "y", "z")
		if !slices.Equal(d.Names[1], of("c.")) {
			t.Errorf("%d: %q", i, d.Names)
		}
	}
}

// P5.3: Same and Compare.

func TestCompare(t *testing.T) {
	name := func(s string) api.Data { return api.Data{Names: names(s)} }
	text := func(s ...string) api.Data { return api.Data{Texts: s} }
	mx := func(n uint32, s string) api.Data { return api.Data{Nums: []uint32{n}, Names: names(s)} }
	srv := func(n uint32, s string) api.Data { return api.Data{Nums: []uint32{0, 0, n}, Names: names(s)} }
	soa := func(a, b string, n uint32) api.Data {
		return api.Data{Names: names(a, b), Nums: []uint32{n, 0, 0, 0, 0}}
	}
	caa := func(n uint32, s ...string) api.Data { return api.Data{Nums: []uint32{n}, Texts: s} }
	for i, c := range []struct {
		t    api.Type
		a, b api.Data
		want int
	}{
		{api.A, raw(1, 2, 3, 4), raw(1, 2, 3, 5), -1}, {api.A, raw(1, 2, 3, 4), raw(1, 2, 3, 4), 0}, {api.A, raw(127, 0, 0, 0), raw(128, 0, 0, 0), -1},
		{api.A, raw('A', 'B', 'C', 'D'), raw('a', 'b', 'c', 'd'), -1},
		{api.NS, name("A."), name("a."), 0}, {api.NS, name("B."), name("a."), 1}, {api.CNAME, name("wWw.A."), name("WwW.a."), 0}, {api.PTR, name("X.a."), name("x.A."), 0},
		// Names stand in the order of their bytes here, lengths ahead, not in that of names.
		{api.NS, name("b."), name("aa."), -1}, {api.NS, name("."), name("a."), -1}, {api.NS, name("a.b."), name("b.a."), -1}, {api.NS, name("a."), name("a.a."), -1},
		{api.NS, name("é."), name("É."), 1}, {api.NS, name("[."), name("{."), -1}, {api.NS, name("Z."), name("[."), 1}, {api.NS, name("@."), name("`."), -1},
		{api.SOA, soa("A.", "B.", 1), soa("a.", "b.", 1), 0}, {api.SOA, soa("a.", "c.", 1), soa("a.", "B.", 2), 1}, {api.SOA, soa("a.", "b.", 1), soa("a.", "b.", 256), -1}, {api.SOA, soa("a.", "b.", 255), soa("a.", "b.", 256), -1}, {api.SOA, soa("a.", "b.", 1<<31), soa("a.", "b.", 1), 1},
		{api.MX, mx(10, "A."), mx(10, "a."), 0}, {api.MX, mx(10, "a."), mx(9, "b."), 1}, {api.MX, mx(255, "a."), mx(256, "a."), -1}, {api.MX, mx(0, "a."), mx(0, "B."), -1}, {api.MX, mx('A', "."), mx('a', "."), -1},
		{api.SRV, srv(1, "X."), srv(1, "x."), 0}, {api.SRV, srv(1, "x."), srv(2, "x."), -1}, {api.SRV, srv('A'<<8, "x."), srv('a'<<8, "x."), -1},
		{api.TXT, text("A"), text("a"), -1}, {api.TXT, text("a"), text("a"), 0}, {api.TXT, text("a"), text("a", ""), -1}, {api.TXT, text("b"), text("aa"), -1}, {api.TXT, text("", "a"), text("a", ""), -1}, {api.TXT, text(""), text("", ""), -1},
		{api.CAA, caa(0, "issue", "x"), caa(0, "ISSUE", "x"), 1}, {api.CAA, caa(0, "issue", "x"), caa(0, "issue", "X"), 1}, {api.CAA, caa(0, "issue", "x"), caa(0, "issue", "xy"), -1}, {api.CAA, caa(0, "issue", ""), caa(0, "issue", ""), 0}, {api.CAA, caa(1, "a", ""), caa(0, "bb", ""), 1}, {api.CAA, caa(0, "b", ""), caa(0, "aa", ""), -1},
		{99, raw(), raw(), 0}, {99, raw(), raw(0), -1}, {99, raw(1), raw(1, 0), -1}, {99, raw(2), raw(1, 255), 1}, {99, raw(255), raw(1), 1}, {99, raw('A'), raw('a'), -1}, {api.OPT, raw(1), raw(1), 0},
	} {
		if got := rdata.Compare(c.t, c.a, c.b); got != c.want {
			t.Errorf("%d: Compare = %d", i, got)
		}
		if got := rdata.Compare(c.t, c.b, c.a); got != -c.want {
			t.Errorf("%d: Compare turned about = %d", i, got)
		}
		if got := rdata.Same(c.t, c.a, c.b); got != (c.want == 0) {
			t.Errorf("%d: Same = %v", i, got)
		}
	}
}

// Data that may not be are the same as nothing, and stand nowhere.

func TestCompareRefused(t *testing.T) {
	five := []uint32{1, 2, 3, 4, 5}
	for i, c := range []struct {
		t         api.Type
		bad, well api.Data
	}{
		{api.A, raw(1, 2, 3), raw(1, 2, 3, 4)}, {api.A, api.Data{}, raw(1, 2, 3, 4)}, {api.A, api.Data{Raw: []byte{1, 2, 3, 4}, Nums: []uint32{0}}, raw(1, 2, 3, 5)},
		{api.NS, api.Data{}, api.Data{Names: names("a.")}}, {api.NS, api.Data{Names: []api.Name{label0}}, api.Data{Names: names("b.")}}, {api.NS, api.Data{Names: []api.Name{name256}}, api.Data{Names: []api.Name{name255}}}, {api.SOA, api.Data{Names: []api.Name{nil, label64}, Nums: five}, api.Data{Names: []api.Name{nil, nil}, Nums: five}},
		{api.MX, api.Data{Nums: []uint32{65536}, Names: names("a.")}, api.Data{Nums: []uint32{0}, Names: names("a.")}}, {api.TXT, api.Data{}, api.Data{Texts: []string{""}}}, {api.CAA, api.Data{Nums: []uint32{0}, Texts: []string{"-", ""}}, api.Data{Nums: []uint32{0}, Texts: []string{"a", ""}}},
		{99, api.Data{Raw: make([]byte, 65536)}, api.Data{Raw: make([]byte, 65535)}}, {99, api.Data{Texts: []string{""}}, raw(1)},
	} {
		for _, p := range [][2]api.Data{{c.bad, c.well}, {c.well, c.bad}, {c.bad, c.bad}} {
			if got := rdata.Compare(c.t, p[0], p[1]); got != 0 {
				t.Errorf("%d: Compare = %d", i, got)
			}
			if rdata.Same(c.t, p[0], p[1]) {
				t.Errorf("%d: Same", i)
			}
		}
		if !rdata.Same(c.t, c.well, c.well) {
			t.Errorf("%d: not the same as itself", i)
		}
	}
	for _, typ := range none {
		if rdata.Same(typ, raw(1), raw(1)) || rdata.Same(typ, api.Data{}, api.Data{}) || rdata.Compare(typ, raw(1), raw(2)) != 0 {
			t.Errorf("%d", typ)
		}
	}
}

// twist turns letters of names about, or changes a little of the rest, so that data are often the same and often not.
func twist(r *rand.Rand, d api.Data) api.Data {
	d = rdata.Copy(d)
	for _, n := range d.Names {
		for i, l := range n {
			n[i] = strings.Map(func(c rune) rune {
				if 'a' <= c|32 && c|32 <= 'z' && r.Intn(2) == 0 {
					return c ^ 32
				}
				return c
			}, l)
		}
	}
	if len(d.Raw) > 0 && r.Intn(2) == 0 {
		d.Raw[r.Intn(len(d.Raw))] ^= 32
	}
	if len(d.Texts) > 0 && r.Intn(2) == 0 {
		d.Texts[r.Intn(len(d.Texts))] += "A"
	}
	if len(d.Nums) > 0 && r.Intn(3) == 0 {
		d.Nums[r.Intn(len(d.Nums))] ^= 1
	}
	return d
}

// fine makes data that are of a type.
func fine(r *rand.Rand, t api.Type) api.Data {
	for {
		d := some(r, t)
		if _, e := model(t, d); e == api.OK {
			return d
		}
	}
}

// key tells what data are compared by: the model's bytes of the names in small letters.
func key(t api.Type, d api.Data) []byte {
	d = rdata.Copy(d)
	for _, n := range d.Names {
		for i, l := range n {
			b := []byte(l)
			for j, c := range b {
				if 'A' <= c && c <= 'Z' {
					b[j] = c + 32
				}
			}
			n[i] = string(b)
		}
	}
	b, _ := model(t, d)
	return b
}

// P5.4: Same is Compare 0 of data that may be; Compare is an order; folded data are the same.

func TestOrderFollows(t *testing.T) {
	r := rand.New(rand.NewSource(7))
	equal := 0
	for range 20000 {
		typ := pick(r, pick(r, own...), pick(r, own...), pick(r, bare...))
		a := fine(r, typ)
		b := twist(r, a)
		if r.Intn(2) == 0 {
			b = some(r, typ)
		}
		got, is := rdata.Compare(typ, a, b), rdata.Same(typ, a, b)
		if rdata.Check(typ, b) != api.OK {
			if got != 0 || is {
				t.Fatalf("%d, %v, %v: %d, %v", typ, a, b, got, is)
			}
			continue
		}
		if want := bytes.Compare(key(typ, a), key(typ, b)); got != want || rdata.Compare(typ, b, a) != -want || is != (want == 0) {
			t.Fatalf("%d, %v, %v: %d, %v, not %d", typ, a, b, got, is, want)
		}
		if got == 0 {
			equal++
		}
		folded := rdata.Fold(typ, a)
		if !rdata.Same(typ, folded, a) || rdata.Compare(typ, folded, a) != 0 || !same(rdata.Fold(typ, folded), folded) {
			t.Fatalf("%d: %v folded is %v", typ, a, folded)
		}
	}
	if equal < 1000 {
		t.Errorf("%d were the same", equal)
	}
}

// An order: of three, sorted by Compare, each stands ahead of the next, and the first ahead of the last.

func TestOrderOfThree(t *testing.T) {
	r := rand.New(rand.NewSource(8))
	for range 5000 {
		typ := pick(r, own...)
		l := make([]api.Data, 3)
		for i := range l {
			l[i] = fine(r, typ)
			if i > 0 && r.Intn(2) == 0 {
				l[i] = twist(r, l[i-1])
			}
		}
		if slices.ContainsFunc(l, func(d api.Data) bool { return rdata.Check(typ, d) != api.OK }) {
			continue
		}
		slices.SortFunc(l, func(a, b api.Data) int { return rdata.Compare(typ, a, b) })
		if rdata.Compare(typ, l[0], l[1]) > 0 || rdata.Compare(typ, l[1], l[2]) > 0 || rdata.Compare(typ, l[0], l[2]) > 0 {
			t.Fatalf("%d: %v", typ, l)
		}
	}
}

// P1: no call panics, and none changes what it is given, whatever that is.

func TestCalm(t *testing.T) {
	r := rand.New(rand.NewSource(9))
	for range 5000 {
		typ, d, other := someType(r), some(r, someType(r)), whole()
		given := rdata.Copy(d)
		first, e := rdata.Bytes(typ, d)
		second, again := rdata.Bytes(typ, d)
		if e != again || !bytes.Equal(first, second) || e != rdata.Check(typ, d) {
			t.Fatalf("%d, %v: %d, %d", typ, d, e, again)
		}
		if rdata.Same(typ, d, other) || rdata.Compare(typ, other, d) != 0 {
			t.Fatalf("%d, %v", typ, d)
		}
		rdata.Fold(typ, d)
		if !same(d, given) || !same(other, whole()) {
			t.Fatalf("%d: %v was changed to %v", typ, given, d)
		}
	}
}

package paper_test

import (
	"fmt"
	"math/rand"
	"slices"
	"strings"
	"testing"

	"nomenclator/api"
	"nomenclator/code"
	"nomenclator/master"
	"nomenclator/name"
	"nomenclator/paper"
)

// P15.1: Line.

var ip = api.Data{Raw: []byte{1, 2, 3, 4}}

func a(ttl uint32, class api.Class, owner ...string) api.Record {
	return api.Record{Owner: owner, Type: api.A, Class: class, TTL: ttl, Data: ip}
}

func with(t api.Type, d api.Data) api.Record {
	return api.Record{Owner: api.Name{"a", "b"}, Type: t, Class: 1, TTL: 60, Data: d}
}

func TestLine(t *testing.T) {
	for want, r := range map[string]api.Record{
		"a.b. 60 IN A 1.2.3.4":                                  a(60, 1, "a", "b"),
		"A.b. 0 CH A 1.2.3.4":                                   a(0, 3, "A", "b"),
		". 2147483647 HS A 1.2.3.4":                             a(greatest, 4),
		`\@. 1 NONE A 1.2.3.4`:                                  a(1, 254, "@"),
		`\$ORIGIN.\$. 604801 CLASS255 A 1.2.3.4`:                a(604801, 255, "$ORIGIN", "$"),
		`a\.b.\"\;\(\).\\.\032\010\000\255. 7 CLASS0 A 1.2.3.4`: a(7, 0, "a.b", `";()`, `\`, " \n\x00\xff"),
		"60.IN.A. 60 CLASS2 A 1.2.3.4":                          a(60, 2, "60", "IN", "A"),
		"a.b. 60 IN NS .":                                       with(api.NS, api.Data{Names: []api.Name{nil}}),
		"a.b. 60 IN CNAME a.B.":                                 with(api.CNAME, api.Data{Names: []api.Name{{"a", "B"}}}),
		`a.b. 60 IN PTR \@.`:                                    with(api.PTR, api.Data{Names: []api.Name{{"@"}}}),
		"a.b. 60 IN SOA ns. h.b. 1 2 3 4 4294967295":            with(api.SOA, api.Data{Names: []api.Name{{"ns"}, {"h", "b"}}, Nums: []uint32{1, 2, 3, 4, 4294967295}}),
		"a.b. 60 IN MX 10 a.b.":                                 with(api.MX, api.Data{Nums: []uint32{10}, Names: []api.Name{{"a", "b"}}}),
		`a.b. 60 IN TXT "x" "" "a\"\\b;\010"`:                   with(api.TXT, api.Data{Texts: []string{"x", "", "a\"\\b;\n"}}),
		"a.b. 60 IN AAAA 1::2":                                  with(api.AAAA, api.Data{Raw: []byte{0, 1, 0, 0, 0, 0, 0, 0, 0, 0, 0, 0, 0, 0, 0, 2}}),
		"a.b. 60 IN SRV 1 2 65535 a.":                           with(api.SRV, api.Data{Nums: []uint32{1, 2, 65535}, Names: []api.Name{{"a"}}}),
		`a.b. 60 IN CAA 128 issue "b; c=\""`:                    with(api.CAA, api.Data{Nums: []uint32{128}, Texts: []string{"issue", `b; c="`}}),
		`a.b. 60 IN TYPE99 \# 2 01ff`:                           with(99, api.Data{Raw: []byte{1, 255}}),
		`a.b. 60 IN TYPE65535 \# 0`:                             with(65535, api.Data{}),
	} {
		lines(t, r, want+"\n", api.OK)
		readsAgain(t, want+"\n", r)
	}
}

func TestLineRefuses(t *testing.T) {
	long := strings.Repeat("a", 63)
	for _, x := range []struct {
		r    api.Record
		want api.Errno
	}{
		{a(60, 1, ""), api.ErrLabel},
		{a(60, 1, "a", "", "b"), api.ErrLabel},
		{a(60, 1, long+"a"), api.ErrLabel},
		{a(60, 1, long, long, long, long), api.ErrName},
		{a(60, 1, long, long, long, long[:62]), api.ErrName},
		{with(0, ip), api.ErrType},
		{with(api.OPT, api.Data{}), api.ErrType},
		{with(api.OPT, ip), api.ErrType},
		{with(128, ip), api.ErrType},
		{with(252, api.Data{}), api.ErrType},
		{with(api.ANY, ip), api.ErrType},
		{with(api.A, api.Data{}), api.ErrData},
		{with(api.A, api.Data{Raw: []byte{1, 2, 3}}), api.ErrData},
		{with(api.AAAA, ip), api.ErrData},
		{with(api.TXT, api.Data{}), api.ErrData},
		{with(api.TXT, api.Data{Texts: []string{strings.Repeat("a", 256)}}), api.ErrData},
		{with(api.A, api.Data{Raw: ip.Raw, Texts: []string{"a"}}), api.ErrData},
		{with(99, api.Data{Nums: []uint32{1}}), api.ErrData},
		{with(api.MX, api.Data{Nums: []uint32{65536}, Names: []api.Name{nil}}), api.ErrData},
		{with(api.NS, api.Data{Names: []api.Name{{""}}}), api.ErrLabel},
		{with(api.NS, api.Data{Names: []api.Name{{long, long, long, long}}}), api.ErrName},
		{with(99, api.Data{Raw: make([]byte, 65536)}), api.ErrLong},
		{a(greatest+1, 1, "a"), api.ErrArg},
		{a(4294967295, 1, "a"), api.ErrArg},
	} {
		lines(t, x.r, "", x.want)
	}
	// As long as they may be.
	lines(t, a(60, 1, long, long, long, long[:61]), strings.Repeat(long+".", 3)+long[:61]+". 60 IN A 1.2.3.4\n", api.OK)
}

// Of all that may be wrong the first is told.
func TestFirstOfLinesErrors(t *testing.T) {
	long := strings.Repeat("a", 63)
	datas := map[api.Type][]api.Data{
		api.A:   {ip, {}, {Raw: []byte{1}}},
		api.NS:  {{Names: []api.Name{{"a"}}}, {Names: []api.Name{{""}}}, {Names: []api.Name{{long, long, long, long}}}, {Names: []api.Name{{""}}, Raw: []byte{1}}, {}},
		99:      {ip, {Texts: []string{"a"}}, {Raw: make([]byte, 65536)}},
		0:       {ip, {}},
		api.OPT: {{}, ip, {Nums: []uint32{1}}, {Raw: make([]byte, 65536)}},
		200:     {ip, {}},
		api.ANY: {ip, {}},
	}
	for kind, l := range datas {
		for _, d := range l {
			for _, owner := range []api.Name{{"a"}, nil, {""}, {long + "a"}, {long, long, long, long}} {
				for _, ttl := range []uint32{0, greatest, greatest + 1} {
					r := api.Record{Owner: owner, Type: kind, Class: 1, TTL: ttl, Data: d}
					want, wrong := modelLine(r)
					lines(t, r, want, wrong)
					first := wrong
					if first == api.OK { // then that of the record behind
						first = api.ErrType
					}
					prints(t, nil, []api.Record{a(1, 1, "b"), r, with(api.OPT, ip)}, "", first)
				}
			}
		}
	}
}

func TestEveryType(t *testing.T) {
	for n := range 65536 {
		kind := api.Type(n)
		d := api.Data{Raw: []byte{7}}
		if code.Known(kind) {
			d = anyData(rand.New(rand.NewSource(int64(n))), kind)
		}
		r := with(kind, d)
		want, wrong := modelLine(r)
		lines(t, r, want, wrong)
		if wrong != api.OK {
			if wrong != api.ErrType {
				t.Errorf("the type %d: %d", n, wrong)
			}
			continue
		}
		if l, f := master.Parse(want, nil); f != (api.Fault{}) || len(l) != 1 || !same(l[0], r) {
			t.Errorf("Parse(%q) = %v, %v", want, l, f)
		}
	}
}

func TestEveryClass(t *testing.T) {
	for n := range 65536 {
		r := a(5, api.Class(n), "a")
		want := fmt.Sprintf("a. 5 %s A 1.2.3.4\n", modelClass(r.Class))
		lines(t, r, want, api.OK)
		if l, f := master.Parse(want, nil); f != (api.Fault{}) || len(l) != 1 || !same(l[0], r) {
			t.Errorf("Parse(%q) = %v, %v", want, l, f)
		}
	}
}

func TestTTLs(t *testing.T) {
	for _, ttl := range []uint32{0, 1, 9, 10, 59, 60, 3600, 604800, 604801, 1 << 30, greatest - 1, greatest, greatest + 1, greatest + 2, 3000000000, 4294967295} {
		want, wrong := fmt.Sprintf("a. %d IN A 1.2.3.4\n", ttl), api.OK
		if ttl >= 1<<31 {
			want, wrong = "", api.ErrArg
		}
		lines(t, a(ttl, 1, "a"), want, wrong)
		if wrong == api.OK {
			readsAgain(t, want, a(ttl, 1, "a"))
			want = "$ORIGIN b.\n" + strings.Replace(want, "IN ", "", 1)
		}
		prints(t, api.Name{"b"}, []api.Record{a(ttl, 1, "a")}, want, wrong)
	}
}

// A line has no bound of its own.
func TestLongLines(t *testing.T) {
	r := with(99, api.Data{Raw: slices.Repeat([]byte{171}, 65535)})
	lines(t, r, `a.b. 60 IN TYPE99 \# 65535 `+strings.Repeat("ab", 65535)+"\n", api.OK)
	r = with(api.TXT, api.Data{Texts: slices.Repeat([]string{strings.Repeat("\n", 254)}, 257)})
	lines(t, r, "a.b. 60 IN TXT"+strings.Repeat(` "`+strings.Repeat(`\010`, 254)+`"`, 257)+"\n", api.OK)
	// Of all names the longest text: each of its bytes is told by four.
	byte63 := strings.Repeat("\n", 63)
	n := api.Name{byte63, byte63, byte63, byte63[:61]}
	line, err := paper.Line(a(1, 1, n...))
	if err != api.OK || len(line) != 250*4+4+len(" 1 IN A 1.2.3.4\n") {
		t.Errorf("a line of %d bytes, %d", len(line), err)
	}
	if back, _ := name.Parse(strings.TrimSuffix(line, " 1 IN A 1.2.3.4\n")); !slices.Equal(back, n) {
		t.Errorf("the owner is %q", back)
	}
}

func TestLinesByChance(t *testing.T) {
	r := rand.New(rand.NewSource(1))
	for range 20000 {
		one := anyRecord(r, api.Record{})
		want, wrong := modelLine(one)
		if wrong != api.OK {
			t.Fatalf("%v may not be printed: %d", one, wrong)
		}
		lines(t, one, want, wrong)
		readsAgain(t, want, one)
	}
}

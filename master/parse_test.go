package master_test

import (
	"fmt"
	"strings"
	"testing"

	"nomenclator/api"
	"nomenclator/master"
	"nomenclator/name"
)

// reads tells whether a text's records, under the origin b., are these.
func reads(t *testing.T, s string, want ...api.Record) {
	t.Helper()
	if l, f := master.Parse(s, api.Name{"b"}); f != (api.Fault{}) || !sameAll(l, want) {
		t.Errorf("Parse(%.200q) = %s, {%d %d}; want %s", s, brief(l), f.Err, f.Line, brief(want))
	}
}

// refuses tells whether a text is refused so.
func refuses(t *testing.T, s string, err api.Errno, line int) {
	t.Helper()
	if l, f := master.Parse(s, api.Name{"b"}); f.Err != err || f.Line != line || l != nil {
		t.Errorf("Parse(%.200q) = %s, {%d %d}; want {%d %d}", s, brief(l), f.Err, f.Line, err, line)
	}
}

// at tells a record of the type A and the class IN: the owner's text, the TTL, the last byte of 1.2.3.
func at(owner string, ttl uint32, last byte) api.Record {
	n, _ := name.Parse(owner)
	return address(n, ttl, api.IN, 1, 2, 3, last)
}

// ofClass tells a record with another class.
func ofClass(r api.Record, class api.Class) api.Record {
	r.Class = class
	return r
}

// P14.3: the chapter's examples.
func TestParseExamples(t *testing.T) {
	reads(t, "a 60 IN A 1.2.3.4", at("a.b.", 60, 4))
	reads(t, "a IN 60 A 1.2.3.4\n A 1.2.3.5", at("a.b.", 60, 4), at("a.b.", 60, 5))
	reads(t, "$TTL 1h\n@ NS ns", api.Record{Owner: api.Name{"b"}, Type: api.NS, Class: api.IN, TTL: 3600, Data: api.Data{Names: []api.Name{{"ns", "b"}}}})
	refuses(t, "a A 1.2.3.4", api.ErrMissing, 1)
	for _, s := range []string{"a 60 60 A 1.2.3.4", "a 60 IN CH A 1.2.3.4", "a 60", "$FOO x"} {
		refuses(t, s, api.ErrEntry, 1)
	}
	for _, s := range []string{"a 60 FOO x", "a 60 ANY x"} {
		refuses(t, s, api.ErrType, 1)
	}
	reads(t, "@ SOA ns h 1 2 3 4 5", api.Record{Owner: api.Name{"b"}, Type: api.SOA, Class: api.IN, TTL: 5, Data: api.Data{Names: []api.Name{{"ns", "b"}, {"h", "b"}}, Nums: []uint32{1, 2, 3, 4, 5}}})
	refuses(t, " A 1.2.3.4", api.ErrMissing, 1)
}

func TestTextsWithoutRecords(t *testing.T) {
	for _, s := range []string{"", " ", "\n", "; x", " \n\t\r\n;\n", "()", "$TTL 5", "$ORIGIN a", "$ORIGIN .\n$TTL 0\n$ORIGIN a.b\n", "(\n$TTL\n5\n)"} {
		reads(t, s)
	}
}

func TestOriginCommand(t *testing.T) {
	for _, word := range []string{"$ORIGIN", "$origin", "$Origin", "$oRIGIN"} {
		reads(t, word+" a.\nx 60 A 1.2.3.4\n@ A 1.2.3.5", at("x.a.", 60, 4), at("a.", 60, 5))
		reads(t, word+" a\nx 60 A 1.2.3.4", at("x.a.b.", 60, 4))
		reads(t, word+" a\n"+word+" c.d\nx 60 A 1.2.3.4", at("x.c.d.a.b.", 60, 4)) // relative to the origin so far
		reads(t, word+" @\nx 60 A 1.2.3.4", at("x.b.", 60, 4))
		reads(t, word+" .\nx 60 A 1.2.3.4\n@ A 1.2.3.5", at("x.", 60, 4), at(".", 60, 5))
		reads(t, word+" a\n"+word+" b.\nx 60 A 1.2.3.4", at("x.b.", 60, 4))
		reads(t, "("+word+"\n a.)\nx 60 A 1.2.3.4", at("x.a.", 60, 4))
	}
	// What stood ahead keeps its names; the owner is taken over as it was.
	reads(t, "x 60 A 1.2.3.4\n$ORIGIN a.\n A 1.2.3.5\nx A 1.2.3.6", at("x.b.", 60, 4), at("x.b.", 60, 5), at("x.a.", 60, 6))
	reads(t, "x 60 CH A 1.2.3.4\n$ORIGIN a.\nx A 1.2.3.5", ofClass(at("x.b.", 60, 4), ch), ofClass(at("x.a.", 60, 5), ch))
	// The data's names are relative to it, too.
	ns := api.Record{Owner: api.Name{"b"}, Type: api.NS, Class: api.IN, TTL: 60, Data: api.Data{Names: []api.Name{{"n", "a"}}}}
	reads(t, "$ORIGIN a.\nb. 60 NS n", ns)
	reads(t, "x 60 A 1.2.3.4\n$ORIGIN a.\n NS n", at("x.b.", 60, 4), api.Record{Owner: api.Name{"x", "b"}, Type: api.NS, Class: api.IN, TTL: 60, Data: ns.Data})
	// A name that is none, with name.Relative's error.
	for s, err := range map[string]api.Errno{"a..b": api.ErrLabel, ".a": api.ErrLabel, `\256`: api.ErrEscape, strings.Repeat("a", 64): api.ErrLabel, strings.Repeat("a.", 126) + "a": api.ErrName, strings.Repeat("a.", 128): api.ErrName} {
		refuses(t, "\n$ORIGIN "+s+"\n", err, 2)
		refuses(t, "x 60 A 1.2.3.4\n$ORIGIN "+s, err, 2)
	}
	refuses(t, "$ORIGIN "+strings.Repeat("a.", 100)+"\n$ORIGIN "+strings.Repeat("a.", 100)+"a", api.ErrName, 2)
	refuses(t, "$ORIGIN "+strings.Repeat("a.", 127)+"\n\nx 60 A 1.2.3.4", api.ErrName, 3)
}

func TestTTLCommand(t *testing.T) {
	for _, word := range []string{"$TTL", "$ttl", "$Ttl", "$tTL"} {
		reads(t, word+" 5\nx A 1.2.3.4", at("x.b.", 5, 4))
		reads(t, word+" 0\nx A 1.2.3.4", at("x.b.", 0, 4))
		reads(t, word+" 1W2d\nx A 1.2.3.4", at("x.b.", 777600, 4))
		reads(t, word+" 2147483647\nx A 1.2.3.4", at("x.b.", 2147483647, 4))
		reads(t, word+" 5\nx A 1.2.3.4\n"+word+" 6\nx A 1.2.3.4", at("x.b.", 5, 4), at("x.b.", 6, 4))
		for _, s := range []string{"2147483648", "060", "1d1w", "x", "-1", "@", "a.", "w", "1w1", "$TTL", "*"} {
			refuses(t, "x 60 A 1.2.3.4\n;\n"+word+" "+s, api.ErrEntry, 3)
		}
	}
	// Beside TTLs that records say themselves.
	reads(t, "$TTL 5\nx 60 A 1.2.3.4\n A 1.2.3.5", at("x.b.", 60, 4), at("x.b.", 5, 5))
	reads(t, "x 60 A 1.2.3.4\n$TTL 5\n A 1.2.3.5\n 7 A 1.2.3.6\n A 1.2.3.7", at("x.b.", 60, 4), at("x.b.", 5, 5), at("x.b.", 7, 6), at("x.b.", 5, 7))
	reads(t, "x 60 A 1.2.3.4\n A 1.2.3.5\n$TTL 0\n A 1.2.3.6", at("x.b.", 60, 4), at("x.b.", 60, 5), at("x.b.", 0, 6))
}

func TestFormOfCommands(t *testing.T) {
	for _, s := range []string{
		"$ORIGIN", "$TTL", "$ORIGIN a. b.", "$TTL 5 5", "$ORIGIN a. ;\n$TTL", `$ORIGIN "a."`, `$TTL "5"`, `$ORIGIN ""`, `$TTL ""`, `$ORIGIN a. "b"`, "$TTL 5 5 5 5",
		"$ORIGIN a..b c", "$TTL x y", `$ORIGIN "a..b"`, `$TTL "x"`,
		"$", "$x", "$FOO", "$INCLUDE f", "$ORIGI a.", "$ORIGINS a.", "$TTLS 5", "$TT 5", `$\079RIGIN a.`, `$TTL\  5`, "$a 60 IN A 1.2.3.4", "$é", "$.", "$$TTL 5", "$ ORIGIN a.", "$t 5", "$ſ 5",
		`"$ORIGIN" a.`, `"$TTL" 5`, `"$x" 60 A 1.2.3.4`,
	} {
		refuses(t, s, api.ErrEntry, strings.Count(s, "\n")+1)
		refuses(t, "x 60 A 1.2.3.4\n\n"+s+"\nx 60 A 1.2.3.4", api.ErrEntry, strings.Count(s, "\n")+3)
	}
	// A Blank entry is none.
	for _, s := range []string{" $ORIGIN a.", "\t$TTL 5", "\r$x", " $TTL", " ($ORIGIN\na.)"} {
		refuses(t, s, api.ErrMissing, 1)
		refuses(t, "x 60 A 1.2.3.4\n"+s, api.ErrType, 2)
	}
	reads(t, "($ORIGIN a.)\n($TTL 5)\nx A 1.2.3.4", at("x.a.", 5, 4))
	// Escaped it is an owner.
	reads(t, `\$TTL 5 A 1.2.3.4`, at(`\$TTL.b.`, 5, 4))
}

func TestOwnerCarriedOn(t *testing.T) {
	reads(t, "x 60 A 1.2.3.4\n A 1.2.3.5\n\tA 1.2.3.6\n\rA 1.2.3.7", at("x.b.", 60, 4), at("x.b.", 60, 5), at("x.b.", 60, 6), at("x.b.", 60, 7))
	reads(t, "x 60 A 1.2.3.4\ny A 1.2.3.5\n A 1.2.3.6\n@ A 1.2.3.7\n A 1.2.3.8", at("x.b.", 60, 4), at("y.b.", 60, 5), at("y.b.", 60, 6), at("b.", 60, 7), at("b.", 60, 8))
	reads(t, ". 60 A 1.2.3.4\n A 1.2.3.5", at(".", 60, 4), at(".", 60, 5))
	refuses(t, "$TTL 5\n$ORIGIN a.\n A 1.2.3.4", api.ErrMissing, 3)
}

func TestClassCarriedOn(t *testing.T) {
	reads(t, "x 60 A 1.2.3.4\n CH A 1.2.3.5\n A 1.2.3.6\ny A 1.2.3.7\n IN A 1.2.3.8\n A 1.2.3.9", at("x.b.", 60, 4), ofClass(at("x.b.", 60, 5), ch), ofClass(at("x.b.", 60, 6), ch), ofClass(at("y.b.", 60, 7), ch), at("y.b.", 60, 8), at("y.b.", 60, 9))
	reads(t, "x 60 CLASS0 A 1.2.3.4\n A 1.2.3.5", ofClass(at("x.b.", 60, 4), 0), ofClass(at("x.b.", 60, 5), 0))
}

func TestTTLCarriedOn(t *testing.T) {
	reads(t, "x 60 A 1.2.3.4\n A 1.2.3.5\ny 7 A 1.2.3.6\nx A 1.2.3.7\n 0 A 1.2.3.8\n A 1.2.3.9", at("x.b.", 60, 4), at("x.b.", 60, 5), at("y.b.", 7, 6), at("x.b.", 7, 7), at("x.b.", 0, 8), at("x.b.", 0, 9))
	refuses(t, "x A 1.2.3.4\ny 60 A 1.2.3.4", api.ErrMissing, 1)
	refuses(t, "$ORIGIN a.\nx A 1.2.3.4\n$TTL 5", api.ErrMissing, 2)
}

// A TTL out of a SOA's fifth number counts as said: entries behind take it over.
func TestTTLOfSOACarriedOn(t *testing.T) {
	soa := func(ttl, fifth uint32) api.Record {
		return api.Record{Owner: api.Name{"b"}, Type: api.SOA, Class: api.IN, TTL: ttl, Data: api.Data{Names: []api.Name{nil, nil}, Nums: []uint32{1, 2, 3, 4, fifth}}}
	}
	reads(t, "@ SOA . . 1 2 3 4 5\n A 1.2.3.4\nx A 1.2.3.5", soa(5, 5), at("b.", 5, 4), at("x.b.", 5, 5))
	reads(t, "@ SOA . . 1 2 3 4 5\n A 1.2.3.4\n 9 A 1.2.3.5\n A 1.2.3.6", soa(5, 5), at("b.", 5, 4), at("b.", 9, 5), at("b.", 9, 6))
	reads(t, "@ SOA . . 1 2 3 4 0\n A 1.2.3.4", soa(0, 0), at("b.", 0, 4))
	reads(t, "@ SOA . . 1 2 3 4 5\n SOA . . 1 2 3 4 6\n A 1.2.3.4", soa(5, 5), soa(5, 6), at("b.", 5, 4))
	// It does not count where there was one.
	reads(t, "@ 9 SOA . . 1 2 3 4 5\n A 1.2.3.4", soa(9, 5), at("b.", 9, 4))
	reads(t, "x 9 A 1.2.3.4\n@ SOA . . 1 2 3 4 5\n A 1.2.3.5", at("x.b.", 9, 4), soa(9, 5), at("b.", 9, 5))
	reads(t, "$TTL 8\n@ SOA . . 1 2 3 4 5\n A 1.2.3.5", soa(8, 5), at("b.", 8, 5))
	reads(t, "@ SOA . . 1 2 3 4 5\n$TTL 8\n A 1.2.3.5", soa(5, 5), at("b.", 8, 5))
	// Nor where it is too great.
	reads(t, "@ SOA . . 1 2 3 4 2147483647\n A 1.2.3.4", soa(greatest, greatest), at("b.", greatest, 4))
	refuses(t, "@ SOA . . 1 2 3 4 2147483648", api.ErrMissing, 1)
	refuses(t, "\n@ SOA . . 1 2 3 4 4294967295\n@ 5 A 1.2.3.4", api.ErrMissing, 2)
	reads(t, "@ 9 SOA . . 1 2 3 4 4294967295\n A 1.2.3.4", soa(9, 4294967295), at("b.", 9, 4))
}

func TestOriginThatIsNone(t *testing.T) {
	for _, s := range []string{"", "a 60 A 1.2.3.4", "a. 60 A 1.2.3.4", ")", "$x", strings.Repeat("a", 70000)} {
		for _, o := range []struct {
			err    api.Errno
			origin api.Name
		}{
			{api.ErrLabel, api.Name{""}},
			{api.ErrLabel, api.Name{"a", strings.Repeat("b", 64)}},
			{api.ErrName, strings.Split(strings.Repeat("a.", 127)+"a", ".")},
		} {
			if l, f := master.Parse(s, o.origin); f != (api.Fault{Err: o.err}) || l != nil {
				t.Errorf("Parse(%.20q, %.50q) = %v, %v", s, o.origin, l, f)
			}
		}
	}
	for _, origin := range []api.Name{nil, {}} {
		if l, f := master.Parse("a 60 A 1.2.3.4", origin); f != (api.Fault{}) || !sameAll(l, []api.Record{at("a.", 60, 4)}) {
			t.Errorf("under the root: %v, %v", l, f)
		}
	}
}

// What scan.Entries refuses comes ahead of what entries say.
func TestFaultsOfScan(t *testing.T) {
	refuses(t, "a 60 A 1.2.3.4)", api.ErrScan, 1)
	refuses(t, "$x\na 060\n\"", api.ErrScan, 3)
	refuses(t, "a 60 FOO\n(\n\n", api.ErrScan, 3)
	refuses(t, "a 60 TXT \"x\ny\"", api.ErrScan, 1)
	if l, f := master.Parse("a 60 TXT"+strings.Repeat(" x", 61), nil); f != (api.Fault{}) || len(l) != 1 || len(l[0].Data.Texts) != 61 {
		t.Errorf("64 words: %v, %v", l, f)
	}
	refuses(t, "a 60 TXT"+strings.Repeat(" x", 62), api.ErrLong, 1)
	refuses(t, "$x\na 60 TXT"+strings.Repeat(" x", 62), api.ErrLong, 2)
	refuses(t, strings.Repeat("\n", 65537), api.ErrLong, 0)
	refuses(t, "$x\n"+strings.Repeat(" ", 65536), api.ErrLong, 0)
	reads(t, "a 60 A 1.2.3.4"+strings.Repeat(" ", 65536-14), at("a.b.", 60, 4))
	refuses(t, "a 60 A 1.2.3.4"+strings.Repeat(" ", 65537-14), api.ErrLong, 0)
}

func TestFirstFault(t *testing.T) {
	good := "a 60 A 1.2.3.4\n"
	for _, w := range []struct {
		s   string
		err api.Errno
	}{
		{"a..b 60 A 1.2.3.4", api.ErrLabel}, {`a\9 60 A 1.2.3.4`, api.ErrEscape}, {"a 060 A 1.2.3.4", api.ErrEntry}, {"a 60 FOO", api.ErrType}, {"a 60 A 1.2.3", api.ErrData}, {"$x", api.ErrEntry}, {"$ORIGIN a..b", api.ErrLabel}, {"$TTL x", api.ErrEntry},
	} {
		refuses(t, w.s, w.err, 1)
		refuses(t, w.s+"\n$y\nb..c\na 60 FOO", w.err, 1)
		refuses(t, good+"\n; x\n"+w.s+"\n$y\n", w.err, 4)
		refuses(t, good+"(\n\n"+w.s+"\n)\n$y\n", w.err, 4) // the line in which its first word begins
		refuses(t, good+"a 60 (\nA 1.2.3.4\n)\n"+w.s, w.err, 5)
	}
}

func TestCountOfRecords(t *testing.T) {
	var s strings.Builder
	want := []api.Record{at("a.b.", 60, 0)}
	s.WriteString("a 60 A 1.2.3.0\n")
	for n := 1; n < 2048; n++ {
		fmt.Fprintf(&s, " A 1.2.3.%d\n", n%256)
		want = append(want, at("a.b.", 60, byte(n)))
	}
	full := s.String()
	reads(t, full, want...)
	reads(t, full+"$TTL 5\n\n;\n$ORIGIN a.\n", want...) // commands do not count
	reads(t, "$TTL 60\n"+full, want...)
	refuses(t, full+" A 1.2.3.4\n", api.ErrLong, 2049)
	refuses(t, full+" A 1.2.3.4\n$x", api.ErrLong, 2049)
	refuses(t, full+"\n;\n$TTL 5\n (\nA 1.2.3.4)\n", api.ErrLong, 2053)
	refuses(t, "\n"+full+"a 60 A 1.2.3.4\n A 1.2.3.4", api.ErrLong, 2050)
	// What is wrong with it is told first.
	refuses(t, full+" A 1.2.3\n", api.ErrData, 2049)
	refuses(t, full+"a..b A 1.2.3.4\n", api.ErrLabel, 2049)
	refuses(t, full+"$x\n", api.ErrEntry, 2049)
	refuses(t, full+" FOO\n A 1.2.3.4", api.ErrType, 2049)
}

// Records that are alike are told as often as they stand there, with the letters that they have.
func TestRecordsAsTheyStand(t *testing.T) {
	reads(t, "A.c 60 A 1.2.3.4\na.C A 1.2.3.4\na.C A 1.2.3.4", at("A.c.b.", 60, 4), at("a.C.b.", 60, 4), at("a.C.b.", 60, 4))
	l, f := master.Parse("x 60 NS Y", api.Name{"B"})
	if f != (api.Fault{}) || l[0].Owner[1] != "B" || l[0].Data.Names[0][0] != "Y" || l[0].Data.Names[0][1] != "B" {
		t.Errorf("letters: %v, %v", l, f)
	}
}

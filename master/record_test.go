package master_test

import (
	"strings"
	"testing"

	"nomenclator/api"
	"nomenclator/master"
	"nomenclator/scan"
)

// Classes that api has no names for.
const (
	ch api.Class = 3
	hs api.Class = 4
)

// entryOf tells the one entry of a text.
func entryOf(t *testing.T, s string) api.Entry {
	t.Helper()
	l, f := scan.Entries(s)
	if f != (api.Fault{}) || len(l) != 1 {
		t.Fatalf("Entries(%q) = %v, %v", s, l, f)
	}
	return l[0]
}

// address tells a record of the type A.
func address(owner api.Name, ttl uint32, class api.Class, raw ...byte) api.Record {
	return api.Record{Owner: owner, Type: api.A, Class: class, TTL: ttl, Data: api.Data{Raw: raw}}
}

func tells(t *testing.T, s string, c api.Carry, want api.Record) {
	t.Helper()
	if r, err := master.Record(entryOf(t, s), c); err != api.OK || !same(r, want) {
		t.Errorf("Record(%q, %v) = %v, %d; want %v", s, c, r, err, want)
	}
}

func tellsNot(t *testing.T, s string, c api.Carry, want api.Errno) {
	t.Helper()
	if r, err := master.Record(entryOf(t, s), c); err != want || !same(r, api.Record{}) {
		t.Errorf("Record(%q, %v) = %v, %d; want %d", s, c, r, err, want)
	}
}

// under tells what is carried on by nothing but an origin; behind, by a record of b.o. 9 CH besides.
func under() api.Carry { return api.Carry{Origin: api.Name{"o"}} }

func behind() api.Carry {
	return api.Carry{Origin: api.Name{"o"}, Owner: api.Name{"b", "o"}, Class: ch, TTL: 9, HasOwner: true, HasClass: true, HasTTL: true}
}

// P14.2.

func TestRecordSaysAll(t *testing.T) {
	want := address(api.Name{"a", "o"}, 60, api.IN, 1, 2, 3, 4)
	for _, s := range []string{"a 60 IN A 1.2.3.4", "a IN 60 A 1.2.3.4", "a 1m in a 1.2.3.4", "a.o. CLASS1 60s TYPE1 1.2.3.4", `a 60 IN A \# 4 01020304`, `\097 60 IN A 1.2.3.4`} {
		tells(t, s, under(), want)
		tells(t, s, behind(), want)
		c := behind()
		c.Default, c.Said = 7, true
		tells(t, s, c, want)
	}
}

func TestEachType(t *testing.T) {
	b := api.Name{"b", "o"}
	for s, d := range map[string]api.Data{
		"A 1.2.3.4":             {Raw: []byte{1, 2, 3, 4}},
		"ns b":                  {Names: []api.Name{b}},
		"CNAME b.o.":            {Names: []api.Name{b}},
		"SOA b @ 1 2 3 4 5":     {Names: []api.Name{b, {"o"}}, Nums: []uint32{1, 2, 3, 4, 5}},
		"PTR .":                 {Names: []api.Name{nil}},
		"MX 10 b":               {Nums: []uint32{10}, Names: []api.Name{b}},
		`TXT a "b c" ""`:        {Texts: []string{"a", "b c", ""}},
		"AAAA ::1":              {Raw: []byte{15: 1}},
		"SRV 1 2 3 b":           {Nums: []uint32{1, 2, 3}, Names: []api.Name{b}},
		`CAA 0 issue "x"`:       {Nums: []uint32{0}, Texts: []string{"issue", "x"}},
		`TYPE99 \# 2 01 ff`:     {Raw: []byte{1, 255}},
		`TYPE127 \# 0`:          {},
		`TYPE256 \# 1 00`:       {Raw: []byte{0}},
		`TYPE65535 \# 1 00`:     {Raw: []byte{0}},
		`TYPE2 \# 5 0162016f00`: {Names: []api.Name{b}},
	} {
		e := entryOf(t, "a 60 IN "+s)
		r, err := master.Record(e, under())
		want := api.Record{Owner: api.Name{"a", "o"}, Type: r.Type, Class: api.IN, TTL: 60, Data: d}
		if err != api.OK || !same(r, want) {
			t.Errorf("Record(%q) = %v, %d; want %v", s, r, err, want)
		}
	}
}

func TestOwners(t *testing.T) {
	data := []byte{1, 2, 3, 4}
	for s, owner := range map[string]api.Name{
		"a": {"a", "o"}, "A": {"A", "o"}, "a.b": {"a", "b", "o"}, "a.": {"a"}, ".": nil, "@": {"o"}, "*": {"*", "o"}, `\@`: {"@", "o"},
		`\$ORIGIN`: {"$ORIGIN", "o"}, `\036a`: {"$a", "o"}, "a$": {"a$", "o"}, "60": {"60", "o"}, "IN": {"IN", "o"}, "A.": {"A"}, "ANY": {"ANY", "o"}, `a\.b`: {"a.b", "o"}, "@.": {"@"},
	} {
		tells(t, s+" 60 A 1.2.3.4", under(), address(owner, 60, api.IN, data...))
		tells(t, s+" 60 A 1.2.3.4", behind(), address(owner, 60, ch, data...))
	}
	// An owner that is no name, with name.Relative's error.
	for s, err := range map[string]api.Errno{
		"a..b": api.ErrLabel, ".a": api.ErrLabel, "..": api.ErrLabel, `a\256`: api.ErrEscape, `\1a`: api.ErrEscape, "\x7f": api.ErrEscape, "é": api.ErrEscape,
		strings.Repeat("a", 64): api.ErrLabel, strings.Repeat("a.", 127): api.ErrName, strings.Repeat("a.", 128): api.ErrName, strings.Repeat("a.", 126) + "a": api.ErrName,
	} {
		if s == strings.Repeat("a.", 127) {
			tells(t, s+" 60 A 1.2.3.4", under(), address(strings.Split(s[:253], "."), 60, api.IN, data...))
			continue
		}
		tellsNot(t, s+" 60 A 1.2.3.4", under(), err)
		tellsNot(t, s+" x y z", behind(), err) // ahead of all words behind it
		tellsNot(t, s, under(), err)
	}
	for _, s := range []string{`"a"`, `"@"`, `""`, `"."`, `"$ORIGIN"`, `"$x"`, `"a..b"`} {
		tellsNot(t, s+" 60 A 1.2.3.4", behind(), api.ErrEntry)
		tellsNot(t, s+" 60 FOO 1.2.3.4", behind(), api.ErrEntry)
		tellsNot(t, s, behind(), api.ErrEntry)
	}
}

func TestOwnerAhead(t *testing.T) {
	tells(t, " 60 IN A 1.2.3.4", behind(), address(api.Name{"b", "o"}, 60, api.IN, 1, 2, 3, 4))
	tells(t, " A 1.2.3.4", behind(), address(api.Name{"b", "o"}, 9, ch, 1, 2, 3, 4))
	for _, s := range []string{" 60 IN A 1.2.3.4", " A 1.2.3.4", " x", ` "x"`, " 060", " 60", " A 1.2.3", " ANY"} {
		tellsNot(t, s, under(), api.ErrMissing) // ahead of all words
		c := behind()
		c.HasOwner = false
		tellsNot(t, s, c, api.ErrMissing)
	}
	// The first word is no owner, and no command.
	for _, s := range []string{" x A 1.2.3.4", " @ 60 IN A 1.2.3.4", " $ORIGIN a.", " $TTL 5", " $x", " b.o. 60 IN A 1.2.3.4"} {
		tellsNot(t, s, behind(), api.ErrType)
		tellsNot(t, s, under(), api.ErrMissing)
	}
	tellsNot(t, " a A 1.2.3.4", behind(), api.ErrData) // but a type's
	tellsNot(t, ` "a" A 1.2.3.4`, behind(), api.ErrEntry)
	tellsNot(t, ` "$ORIGIN" a.`, behind(), api.ErrEntry)
	// The root is an owner, too.
	c := behind()
	c.Owner = nil
	tells(t, " 60 IN A 1.2.3.4", c, address(nil, 60, api.IN, 1, 2, 3, 4))
}

func TestNoRecords(t *testing.T) {
	for _, s := range []string{"$ORIGIN a.", "$origin a.", "$TTL 5", "$ttl 5", "$TtL", "$ORIGIN", "$ORIGIN a b", "$", "$x", "$INCLUDE f", "$GENERATE 1-2 a A 1.2.3.4", "$a 60 IN A 1.2.3.4", "$ORIGINS a.", "$a..b", `$\256`} {
		tellsNot(t, s, under(), api.ErrEntry)
		tellsNot(t, s, behind(), api.ErrEntry)
	}
	for _, e := range []api.Entry{{}, {Line: 3}, {Blank: true}, {Words: []api.Term{}}, {Blank: true, Words: []api.Term{}}} {
		for _, c := range []api.Carry{{}, under(), behind()} {
			if r, err := master.Record(e, c); err != api.ErrEntry || !same(r, api.Record{}) {
				t.Errorf("Record(%v, %v) = %v, %d", e, c, r, err)
			}
		}
	}
}

func TestTTLAndClass(t *testing.T) {
	a := api.Name{"a", "o"}
	data := []byte{1, 2, 3, 4}
	for s, want := range map[string]api.Record{
		"a A 1.2.3.4":               address(a, 9, ch, data...),
		"a 5 A 1.2.3.4":             address(a, 5, ch, data...),
		"a 0 A 1.2.3.4":             address(a, 0, ch, data...),
		"a 2147483647 A 1.2.3.4":    address(a, 2147483647, ch, data...),
		"a 1w2D A 1.2.3.4":          address(a, 777600, ch, data...),
		"a IN A 1.2.3.4":            address(a, 9, api.IN, data...),
		"a 5 HS A 1.2.3.4":          address(a, 5, hs, data...),
		"a hs 5 A 1.2.3.4":          address(a, 5, hs, data...),
		"a NONE 5 A 1.2.3.4":        address(a, 5, 254, data...),
		"a class255 A 1.2.3.4":      address(a, 9, 255, data...),
		"a CLASS0 A 1.2.3.4":        address(a, 9, 0, data...),
		"a 1h CLASS65535 A 1.2.3.4": address(a, 3600, 65535, data...),
	} {
		tells(t, s, behind(), want)
		want.Owner = api.Name{"b", "o"}
		tells(t, s[1:], behind(), want)
	}
	for _, s := range []string{
		"60 60 A", "60 5 A", "60 IN 60 A", "IN 60 60 A", "60 60 IN A", "60 IN 5x A", "60 5x A", "IN IN A", "IN CH A", "60 IN CH A", "IN 60 CH A", "IN CH 60 A", "IN CLASS1 A", "CLASS1 CLASS1 A",
		"060 A", "60x A", "1d1w A", "2147483648 A", "1x IN A", "IN 060 A", "0x5 IN A", "5. A", "1.2.3.4 A",
		`"60" A`, `"IN" A`, `60 "IN" A`, `IN "60" A`, `"A"`, `60 IN "A"`, `60 "A"`, `IN "A"`, `""`, `60 ""`, `"ANY"`, `"x"`, `60 IN "60" A`, `"FOO"`,
	} {
		tellsNot(t, "a "+s+" 1.2.3.4", behind(), api.ErrEntry)
		tellsNot(t, " "+s+" 1.2.3.4", behind(), api.ErrEntry)
	}
}

// The words end ahead of a type's.
func TestTooFewWords(t *testing.T) {
	for _, s := range []string{"a", "a 60", "a IN", "a 60 IN", "a IN 60", "a class7 1h", " 60", " IN", " 60 IN", " IN 60"} {
		tellsNot(t, s, behind(), api.ErrEntry)
	}
	// What is no number of seconds is told first, and is the same.
	tellsNot(t, "a 060", behind(), api.ErrEntry)
}

func TestWordsThatAreNoTypes(t *testing.T) {
	for _, s := range []string{"FOO", "ANY", "any", "aNy", "OPT", "opt", "TYPE41", "TYPE0", "TYPE128", "TYPE200", "TYPE255", "type252", "TYPE65536", "TYPE01", "TYPE", "AXFR", "@", "a.", "-1", "+1", ".5", `\#`, `\065`, "INN", "CLASS", "CLASS65536", "CLASS01", "CLASS1.", "x60", "$TTL", "*", "é", "\x00"} {
		for _, ahead := range []string{"a ", "a 60 ", "a IN ", "a 60 CH ", "a HS 60 ", " ", " 60 ", " IN 60 "} {
			tellsNot(t, ahead+s+" 1.2.3.4", behind(), api.ErrType)
			tellsNot(t, ahead+s, behind(), api.ErrType)
		}
		tellsNot(t, "a 060 "+s, behind(), api.ErrEntry) // the word ahead is told first
		tellsNot(t, "a 60 60 "+s, behind(), api.ErrEntry)
	}
	// Behind ANY nothing is a class, a TTL or a type any more.
	tellsNot(t, "a ANY A 1.2.3.4", behind(), api.ErrType)
	tellsNot(t, "a ANY IN 60 A 1.2.3.4", behind(), api.ErrType)
	tells(t, "a CLASS255 A 1.2.3.4", behind(), address(api.Name{"a", "o"}, 9, 255, 1, 2, 3, 4))
}

// A word without bytes, which no text has, is none of what it could be.
func TestEmptyWords(t *testing.T) {
	word := func(l ...string) (e api.Entry) {
		for _, s := range l {
			e.Words = append(e.Words, api.Term{Text: s})
		}
		return e
	}
	if _, err := master.Record(word("", "60", "A", "1.2.3.4"), behind()); err != api.ErrLabel {
		t.Errorf("an empty owner: %d", err)
	}
	for _, l := range [][]string{{"a", ""}, {"a", "", "A", "1.2.3.4"}, {"a", "60", "", "A", "1.2.3.4"}, {"a", "IN", ""}} {
		if _, err := master.Record(word(l...), behind()); err != api.ErrType {
			t.Errorf("%q: %d", l, err)
		}
	}
	if _, err := master.Record(word("a", "A", ""), behind()); err != api.ErrData {
		t.Errorf("empty data: %d", err)
	}
}

func TestWrongData(t *testing.T) {
	for _, s := range []string{"A", "A 1.2.3", "A 1.2.3.4 5", "A 01.2.3.4", `A "1.2.3.4"`, "A ::1", "AAAA 1.2.3.4", "NS", "NS a b", "NS a..b", `NS "a"`, "MX a", "MX 65536 a", "MX 10", "TXT", `TXT \256`, "SOA a b 1 2 3 4", "SOA a b 1 2 3 4 4294967296", "SOA a b 1 2 3 4 5 6", "CAA 256 issue x", "CAA 0 is-sue x", "SRV 1 2 a", "TYPE99 1.2.3.4", "TYPE99", `TYPE99 \# 2 01`, `A \# 3 010203`, `A "\#" 4 01020304`, "NS " + strings.Repeat("a", 64), "A A 1.2.3.4", "A 60 1.2.3.4", "A IN 1.2.3.4"} {
		tellsNot(t, "a 60 IN "+s, under(), api.ErrData)
		tellsNot(t, " "+s, behind(), api.ErrData)
		tellsNot(t, "a "+s, under(), api.ErrData) // ahead of a TTL that is missing
	}
}

func TestClassTakenOver(t *testing.T) {
	want := address(api.Name{"a", "o"}, 60, api.IN, 1, 2, 3, 4)
	tells(t, "a 60 A 1.2.3.4", under(), want)
	c := under()
	c.Class = 7 // there is none
	tells(t, "a 60 A 1.2.3.4", c, want)
	for _, class := range []api.Class{0, 1, 3, 4, 7, 254, 255, 65535} {
		c.Class, c.HasClass = class, true
		want.Class = class
		tells(t, "a 60 A 1.2.3.4", c, want)
	}
	want.Class = hs
	tells(t, "a 60 HS A 1.2.3.4", c, want)
}

func TestTTLTakenOver(t *testing.T) {
	a := api.Name{"a", "o"}
	c := api.Carry{Origin: api.Name{"o"}, Default: 5, TTL: 7}
	tellsNot(t, "a A 1.2.3.4", c, api.ErrMissing) // there is none
	c.Said = true
	tells(t, "a A 1.2.3.4", c, address(a, 5, api.IN, 1, 2, 3, 4))
	c.HasTTL = true
	tells(t, "a A 1.2.3.4", c, address(a, 5, api.IN, 1, 2, 3, 4)) // $TTL's comes first
	c.Said = false
	tells(t, "a A 1.2.3.4", c, address(a, 7, api.IN, 1, 2, 3, 4))
	tells(t, "a 9 A 1.2.3.4", c, address(a, 9, api.IN, 1, 2, 3, 4))
	c.Said = true
	tells(t, "a 9 A 1.2.3.4", c, address(a, 9, api.IN, 1, 2, 3, 4))
	tells(t, "a 0 A 1.2.3.4", c, address(a, 0, api.IN, 1, 2, 3, 4))
	c.Default = 0
	tells(t, "a A 1.2.3.4", c, address(a, 0, api.IN, 1, 2, 3, 4))
	c.Said, c.TTL = false, 0
	tells(t, "a A 1.2.3.4", c, address(a, 0, api.IN, 1, 2, 3, 4))
}

func TestTTLOfSOA(t *testing.T) {
	soa := func(ttl, fifth uint32) api.Record {
		return api.Record{Owner: api.Name{"o"}, Type: api.SOA, Class: api.IN, TTL: ttl, Data: api.Data{Names: []api.Name{{"o"}, nil}, Nums: []uint32{1, 2, 3, 4, fifth}}}
	}
	tells(t, "@ SOA @ . 1 2 3 4 5", under(), soa(5, 5))
	tells(t, "@ SOA @ . 1 2 3 4 0", under(), soa(0, 0))
	tells(t, "@ IN TYPE6 @ . 1 2 3 4 5", under(), soa(5, 5))
	tells(t, `@ SOA \# 24 016f00 00 00000001 00000002 00000003 00000004 00000005`, under(), soa(5, 5))
	tells(t, "@ SOA @ . 1 2 3 4 2147483647", under(), soa(2147483647, 2147483647))
	tellsNot(t, "@ SOA @ . 1 2 3 4 2147483648", under(), api.ErrMissing)
	tellsNot(t, "@ SOA @ . 1 2 3 4 4294967295", under(), api.ErrMissing)
	// Where there is a TTL the number counts for nothing.
	tells(t, "@ 9 SOA @ . 1 2 3 4 5", under(), soa(9, 5))
	tells(t, "@ 9 SOA @ . 1 2 3 4 4294967295", under(), soa(9, 4294967295))
	c := under()
	c.TTL, c.HasTTL = 7, true
	tells(t, "@ SOA @ . 1 2 3 4 5", c, soa(7, 5))
	tells(t, "@ SOA @ . 1 2 3 4 4294967295", c, soa(7, 4294967295))
	c.Default, c.Said = 8, true
	tells(t, "@ SOA @ . 1 2 3 4 5", c, soa(8, 5))
	// Of no other type.
	tellsNot(t, "@ MX 5 a", under(), api.ErrMissing)
	tellsNot(t, "@ SRV 1 2 3 a", under(), api.ErrMissing)
}

func TestNamesCarriedOn(t *testing.T) {
	for err, wrong := range map[api.Errno]api.Name{api.ErrLabel: {"a", ""}, api.ErrName: strings.Split(strings.Repeat("a.", 127)+"a", ".")} {
		for _, s := range []string{"a 60 IN A 1.2.3.4", "a. 60 IN A 1.2.3.4", " 60 IN A 1.2.3.4", "$ORIGIN a.", "$x", `"a"`, "a..b", "a 60 FOO"} {
			c := behind()
			c.Origin = wrong
			tellsNot(t, s, c, err)
			c.Owner = api.Name{"", strings.Repeat("a", 64)}
			tellsNot(t, s, c, err) // the origin's error comes first
			c = behind()
			c.Owner = wrong
			tellsNot(t, s, c, err)
		}
		c := behind()
		c.Owner, c.HasOwner = wrong, false // there is none
		tells(t, "a 60 IN A 1.2.3.4", c, address(api.Name{"a", "o"}, 60, api.IN, 1, 2, 3, 4))
		c = behind()
		c.Owner = wrong
		if _, e := master.Record(api.Entry{}, c); e != err {
			t.Errorf("no words: %d", e)
		}
	}
	c := behind()
	c.Origin, c.Owner = api.Name{strings.Repeat("a", 64)}, strings.Split(strings.Repeat("a.", 127)+"a", ".")
	tellsNot(t, "a 60 IN A 1.2.3.4", c, api.ErrLabel)
	c.Origin, c.Owner = c.Owner, c.Origin
	tellsNot(t, "a 60 IN A 1.2.3.4", c, api.ErrName)
}

// Which line an entry says counts for nothing.
func TestLineOfEntry(t *testing.T) {
	for _, line := range []int{-1, 0, 7, 1 << 40} {
		e := entryOf(t, "a 60 IN A 1.2.3.4")
		e.Line = line
		if r, err := master.Record(e, under()); err != api.OK || r.TTL != 60 {
			t.Errorf("line %d: %v, %d", line, r, err)
		}
	}
}

// More words than a text's entry may have are read, too: an entry may be handed in that no text has.
func TestManyWords(t *testing.T) {
	e := entryOf(t, "a 60 IN TXT x")
	for range 200 {
		e.Words = append(e.Words, api.Term{Text: "y"})
	}
	if r, err := master.Record(e, under()); err != api.OK || len(r.Data.Texts) != 201 {
		t.Errorf("Record of 205 words = %v, %d", r, err)
	}
}

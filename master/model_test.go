package master_test

import (
	"fmt"
	"math/big"
	"math/rand"
	"reflect"
	"regexp"
	"slices"
	"strings"
	"testing"

	"nomenclator/api"
	"nomenclator/code"
	"nomenclator/master"
	"nomenclator/name"
	"nomenclator/rtext"
	"nomenclator/scan"
)

// Another telling of the chapter's words: what a number of seconds looks like is told by a pattern, and what the words of an entry are by a pattern over one letter for each of them.
var (
	plainPattern  = regexp.MustCompile(`^(0|[1-9][0-9]*)$`)
	letterPattern = regexp.MustCompile(`^(?:(0|[1-9][0-9]*)[wW])?(?:(0|[1-9][0-9]*)[dD])?(?:(0|[1-9][0-9]*)[hH])?(?:(0|[1-9][0-9]*)[mM])?(?:(0|[1-9][0-9]*)[sS])?$`)
	aheadPattern  = regexp.MustCompile(`^(?:DC?|CD?)?`)
)

const greatest = 2147483647

// modelTTL tells what TTL must answer.
func modelTTL(s string) (uint32, api.Errno) {
	p := plainPattern.FindStringSubmatch(s)
	factors := []int64{1}
	if p == nil && s != "" {
		p = letterPattern.FindStringSubmatch(s)
		factors = []int64{7 * 86400, 24 * 3600, 60 * 60, 60, 1}
	}
	if p == nil {
		return 0, 240
	}
	all := new(big.Int)
	for i, f := range factors {
		n := new(big.Int)
		n.SetString("0"+p[i+1], 10)
		all.Add(all, n.Mul(n, big.NewInt(f)))
	}
	if all.Cmp(big.NewInt(greatest)) > 0 {
		return 0, 240
	}
	return uint32(all.Int64()), 0
}

// wordKinds tells each word by a letter: Q in quotes, D with a digit ahead, C a class's alone, T any other.
func wordKinds(words []api.Term) string {
	var kinds strings.Builder
	for _, w := range words {
		_, noClass := code.ParseClass(w.Text)
		switch {
		case w.Quoted:
			kinds.WriteByte('Q')
		case w.Text != "" && strings.Contains("0123456789", w.Text[:1]):
			kinds.WriteByte('D')
		case noClass == 0 && !strings.EqualFold(w.Text, "any"):
			kinds.WriteByte('C')
		default:
			kinds.WriteByte('T')
		}
	}
	return kinds.String()
}

// dollar tells whether an entry is none of a record, by its first word.
func dollar(e api.Entry) bool {
	return !e.Blank && len(e.Words) > 0 && !e.Words[0].Quoted && strings.IndexByte(e.Words[0].Text, '$') == 0
}

// modelRecord tells what Record must answer, and whether the record's TTL counts as said by it.
func modelRecord(e api.Entry, c api.Carry) (api.Record, bool, api.Errno) {
	none := api.Record{}
	if w := name.Check(c.Origin); w != 0 {
		return none, false, w
	}
	if w := name.Check(c.Owner); c.HasOwner && w != 0 {
		return none, false, w
	}
	if len(e.Words) == 0 || dollar(e) {
		return none, false, 240
	}
	r := api.Record{Owner: c.Owner, Class: 1}
	words := e.Words
	if !e.Blank {
		if words[0].Quoted {
			return none, false, 240
		}
		n, w := name.Relative(words[0].Text, c.Origin)
		if w != 0 {
			return none, false, w
		}
		r.Owner, words = n, words[1:]
	} else if !c.HasOwner {
		return none, false, 9
	}
	kinds := wordKinds(words)
	ahead := aheadPattern.FindString(kinds)
	place := strings.IndexByte(ahead, 'D')
	if place >= 0 {
		n, w := modelTTL(words[place].Text)
		if w != 0 {
			return none, false, 240
		}
		r.TTL = n
	}
	if len(ahead) == len(kinds) || kinds[len(ahead)] != 'T' {
		return none, false, 240
	}
	kind, w := code.ParseType(words[len(ahead)].Text)
	if w != 0 || kind == 0 || kind == 41 || kind >= 128 && kind <= 255 {
		return none, false, 6
	}
	r.Type = kind
	if r.Data, w = rtext.Parse(kind, words[len(ahead)+1:], c.Origin); w != 0 {
		return none, false, w
	}
	if c.HasClass {
		r.Class = c.Class
	}
	if place := strings.IndexByte(ahead, 'C'); place >= 0 {
		r.Class, _ = code.ParseClass(words[place].Text)
	}
	if place >= 0 {
		return r, true, 0
	}
	if c.Said {
		r.TTL = c.Default
		return r, false, 0
	}
	if c.HasTTL {
		r.TTL = c.TTL
		return r, false, 0
	}
	if kind == 6 && r.Data.Nums[4] <= greatest {
		r.TTL = r.Data.Nums[4]
		return r, true, 0
	}
	return none, false, 9
}

// modelParse tells what Parse must answer.
func modelParse(s string, origin api.Name) ([]api.Record, api.Fault) {
	if w := name.Check(origin); w != 0 {
		return nil, api.Fault{Err: w}
	}
	l, f := scan.Entries(s)
	if f.Err != 0 {
		return nil, f
	}
	c := api.Carry{Origin: origin}
	var out []api.Record
	for _, e := range l {
		w := api.Errno(0)
		switch {
		case dollar(e) && (strings.EqualFold(e.Words[0].Text, "$origin") || strings.EqualFold(e.Words[0].Text, "$ttl")):
			if len(e.Words) != 2 || e.Words[1].Quoted {
				w = 240
			} else if len(e.Words[0].Text) == 7 {
				c.Origin, w = name.Relative(e.Words[1].Text, c.Origin)
			} else {
				c.Default, w = modelTTL(e.Words[1].Text)
				c.Said = true
			}
		default:
			var r api.Record
			var said bool
			if r, said, w = modelRecord(e, c); w == 0 && len(out) == 2048 {
				w = 3
			}
			out = append(out, r)
			c.Owner, c.HasOwner, c.Class, c.HasClass = r.Owner, true, r.Class, true
			if said {
				c.TTL, c.HasTTL = r.TTL, true
			}
		}
		if w != 0 {
			return nil, api.Fault{Err: w, Line: e.Line}
		}
	}
	return out, api.Fault{}
}

// plain makes nil of all lists without things: both are the same.
func plain(r api.Record) api.Record {
	if len(r.Owner) == 0 {
		r.Owner = nil
	}
	r.Data.Names = slices.Clone(r.Data.Names)
	for i, n := range r.Data.Names {
		if len(n) == 0 {
			r.Data.Names[i] = nil
		}
	}
	if len(r.Data.Names) == 0 {
		r.Data.Names = nil
	}
	if len(r.Data.Nums) == 0 {
		r.Data.Nums = nil
	}
	if len(r.Data.Texts) == 0 {
		r.Data.Texts = nil
	}
	if len(r.Data.Raw) == 0 {
		r.Data.Raw = nil
	}
	return r
}

func same(a, b api.Record) bool { return reflect.DeepEqual(plain(a), plain(b)) }

func sameAll(a, b []api.Record) bool { return slices.EqualFunc(a, b, same) }

func brief(v any) string { return fmt.Sprintf("%.400s", fmt.Sprintf("%v", v)) }

// asModel holds Parse against the other telling.
func asModel(t *testing.T, s string, origin api.Name) {
	t.Helper()
	want, fault := modelParse(s, origin)
	got, f := master.Parse(s, origin)
	if f != fault || !sameAll(got, want) {
		t.Fatalf("Parse(%.300q, %.100q) = %s, {%d %d}; want %s, {%d %d}", s, origin, brief(got), f.Err, f.Line, brief(want), fault.Err, fault.Line)
	}
	if f.Err != api.OK && got != nil {
		t.Fatalf("Parse(%.300q) tells records beside a fault", s)
	}
}

// recordAsModel holds Record against the other telling.
func recordAsModel(t *testing.T, e api.Entry, c api.Carry) {
	t.Helper()
	want, _, wrong := modelRecord(e, c)
	got, err := master.Record(e, c)
	if err != wrong || !same(got, want) {
		t.Fatalf("Record(%s, %s) = %s, %d; want %s, %d", brief(e), brief(c), brief(got), err, brief(want), wrong)
	}
	if err != api.OK && !reflect.DeepEqual(got, api.Record{}) {
		t.Fatalf("Record(%s, %s) tells %s beside an error", brief(e), brief(c), brief(got))
	}
}

// Words of which most may stand somewhere in an entry.
var pieces = []string{
	"a", "b.c", "@", "a.", ".", "A", "ns", "mx", "txt", "SOA", "CNAME", "TYPE99", "type1", "ANY", "any", "OPT", "TYPE0", "TYPE128", "AXFR",
	"IN", "in", "CH", "CLASS255", "class7", "NONE", "60", "0", "1h", "1W2d", "2147483647", "2147483648", "060", "1x", "9",
	"1.2.3.4", `\#`, "4", "01020304", `""`, `"x y"`, `"a"`, `"60"`, `"IN"`, `"A"`, "$ORIGIN", "$ttl", "$x", "$", `\$a`, `\065`, `a..b`, `\9`,
}

var (
	owners = []string{"a", "@", "b.c.", ".", "x.y", "*", " ", " ", " ", " ", `\$ttl`}
	firsts = []string{"", "", "60 ", "IN ", "60 IN ", "CH 1h2m ", "0 ", "1d CLASS9 ", "2147483647 "}
	datas  = []string{"A 1.2.3.4", "NS ns", "MX 10 @", "TXT \"a b\" c", "SOA ns h 1 2 3 4 5", "SOA ns h 1 2 3 4 2147483648", "SOA . . 0 0 0 0 2147483647", "AAAA ::1", `TYPE99 \# 2 0102`, `A \# 4 01020304`, "CAA 0 issue \"x\"", "SRV 1 2 3 @", "CNAME .", "TYPE6 @ @ 1 1 1 1 7"}
	others = []string{"$ORIGIN a", "$ORIGIN b.", "$origin @", "$ORIGIN .", "$TTL 5", "$ttl 1h", "", " ", "; x", "$Ttl 0"}
)

func pick(r *rand.Rand, l []string) string { return l[r.Intn(len(l))] }

// anyLine tells a line that is an entry without a fault, where one ahead of it says what it does not.
func anyLine(r *rand.Rand) string {
	if r.Intn(6) == 0 {
		return pick(r, others)
	}
	owner := pick(r, owners)
	if owner != " " {
		owner += " "
	}
	return owner + pick(r, firsts) + pick(r, datas)
}

// anyWords tells words by chance.
func anyWords(r *rand.Rand, count int) string {
	var l []string
	for range count {
		l = append(l, pick(r, pieces))
	}
	return strings.Join(l, " ")
}

func TestTextsByChance(t *testing.T) {
	r := rand.New(rand.NewSource(14))
	origins := []api.Name{nil, {"b"}, {"x", "Y"}}
	for range 20000 {
		var lines []string
		if r.Intn(2) == 0 {
			lines = append(lines, "o 7 CH A 1.2.3.4")
		}
		for range r.Intn(8) {
			lines = append(lines, anyLine(r))
		}
		if r.Intn(3) == 0 {
			lines = append(lines, anyWords(r, 1+r.Intn(7)))
		}
		for range r.Intn(3) {
			lines = append(lines, anyLine(r))
		}
		asModel(t, strings.Join(lines, "\n"), origins[r.Intn(3)])
	}
}

// Every entry of up to three of the pieces, behind an owner, behind none, and as they are.
func TestEveryFewWords(t *testing.T) {
	origin := api.Name{"b"}
	for _, one := range pieces {
		asModel(t, one, origin)
		asModel(t, " "+one, origin)
		for _, two := range pieces {
			asModel(t, one+" "+two, origin)
			asModel(t, "o 7 A 1.2.3.4\n "+one+" "+two+" 1.2.3.4", origin)
			for _, three := range pieces {
				s := one + " " + two + " " + three
				asModel(t, "o "+s+" 1.2.3.4", origin)
				asModel(t, "o 7 CH A 1.2.3.4\n"+s, origin)
				asModel(t, "$TTL 8\n"+s+" 1.2.3.4\n A 1.2.3.4", origin)
			}
		}
	}
}

// anyCarry tells what may have been carried on, or not.
func anyCarry(r *rand.Rand) api.Carry {
	names := []api.Name{nil, {"b"}, {"x", "y"}, {}, {"b"}, {"x"}, {""}, {strings.Repeat("a", 64)}, slices.Repeat(api.Name{strings.Repeat("a", 63)}, 4)}
	name := func() api.Name { return names[r.Intn(len(names)-r.Intn(4))] }
	return api.Carry{
		Origin: name(), Owner: name(), Class: api.Class(r.Intn(300)), Default: r.Uint32(), TTL: r.Uint32(),
		HasOwner: r.Intn(2) == 0, HasClass: r.Intn(2) == 0, HasTTL: r.Intn(2) == 0, Said: r.Intn(2) == 0,
	}
}

func TestRecordsByChance(t *testing.T) {
	r := rand.New(rand.NewSource(15))
	for range 60000 {
		s := anyLine(r)
		if r.Intn(3) == 0 {
			s = anyWords(r, 1+r.Intn(6))
		}
		l, _ := scan.Entries(s)
		e := api.Entry{}
		if len(l) > 0 {
			e = l[0]
		}
		e.Line, e.Blank = r.Intn(9)-4, r.Intn(3) == 0
		if len(e.Words) > 0 && r.Intn(6) == 0 {
			w := &e.Words[r.Intn(len(e.Words))]
			w.Quoted = !w.Quoted
		}
		if len(e.Words) > 0 && r.Intn(9) == 0 {
			e.Words[r.Intn(len(e.Words))].Text = ""
		}
		recordAsModel(t, e, anyCarry(r))
	}
}

func FuzzParse(f *testing.F) {
	for _, s := range []string{"", "a 60 IN A 1.2.3.4", "a IN 60 A 1.2.3.4\n A 1.2.3.5", "$TTL 1h\n@ NS ns", "@ SOA ns h 1 2 3 4 5\n A 1.2.3.4", "$ORIGIN a.\n$ttl 1w2d3h\nb (CH\n TXT \"x\") ; y", "$FOO x", "a 60 ANY x"} {
		f.Add(s, "b.")
	}
	f.Fuzz(func(t *testing.T, s, origin string) {
		n, _ := name.Parse(origin)
		asModel(t, s, n)
		want, wrong := modelTTL(s)
		if n, err := master.TTL(s); n != want || err != wrong {
			t.Fatalf("TTL(%q) = %d, %d; want %d, %d", s, n, err, want, wrong)
		}
	})
}

package paper_test

import (
	"fmt"
	"math/rand"
	"slices"
	"strings"
	"testing"

	"nomenclator/api"
	"nomenclator/paper"
)

// P15.2: Text.

var (
	root = api.Name(nil)
	b    = api.Name{"b"}
)

// tells holds Text to these lines, and what it tells to the records.
func tells(t *testing.T, origin api.Name, l []api.Record, want ...string) {
	t.Helper()
	s := strings.Join(want, "\n") + "\n"
	prints(t, origin, l, s, api.OK)
	readsAgain(t, s, l...)
}

func TestText(t *testing.T) {
	x := with(api.TXT, api.Data{Texts: []string{"x"}})
	tells(t, b, []api.Record{a(60, 1, "a", "b"), x, a(5, 3, "b")}, "$ORIGIN b.", "a 60 A 1.2.3.4", ` 60 TXT "x"`, "@ 5 CH A 1.2.3.4")
	tells(t, root, []api.Record{a(60, 1, "a", "b"), x, a(5, 3, "b"), a(5, 3)}, "$ORIGIN .", "a.b. 60 A 1.2.3.4", ` 60 TXT "x"`, "b. 5 CH A 1.2.3.4", "@ 5 A 1.2.3.4")
	tells(t, api.Name{"a", "b"}, []api.Record{a(60, 1, "a", "b"), x, a(5, 3, "b"), a(0, 3)}, "$ORIGIN a.b.", "@ 60 A 1.2.3.4", ` 60 TXT "x"`, "b. 5 CH A 1.2.3.4", ". 0 A 1.2.3.4")
	tells(t, api.Name{"c"}, []api.Record{x, a(60, 1, "a", "b")}, "$ORIGIN c.", `a.b. 60 TXT "x"`, " 60 A 1.2.3.4")
	tells(t, api.Name{"@", "$"}, []api.Record{a(1, 1, "@", "$"), a(1, 1, "@", "@", "$"), a(1, 1, "$ttl", "@", "$")}, `$ORIGIN \@.\$.`, "@ 1 A 1.2.3.4", `\@ 1 A 1.2.3.4`, `\$ttl 1 A 1.2.3.4`)
	tells(t, api.Name{`";()`, " \n\x00\xff"}, nil, `$ORIGIN \"\;\(\).\032\010\000\255.`)
	// Names in data are told whole, whatever the origin.
	tells(t, b, []api.Record{with(api.NS, api.Data{Names: []api.Name{{"a", "b"}}}), with(api.NS, api.Data{Names: []api.Name{b}})}, "$ORIGIN b.", "a 60 NS a.b.", " 60 NS b.")
	// Types with a word and without.
	tells(t, b, []api.Record{with(99, api.Data{}), with(api.CAA, api.Data{Nums: []uint32{0}, Texts: []string{"issue", ""}})}, "$ORIGIN b.", `a 60 TYPE99 \# 0`, ` 60 CAA 0 issue ""`)
}

// An owner is left away, if it is that of the record just ahead, byte for byte.
func TestOwnersAsAhead(t *testing.T) {
	tells(t, b, []api.Record{a(1, 1, "a", "b"), a(2, 1, "a", "b"), a(3, 1, "a", "b")}, "$ORIGIN b.", "a 1 A 1.2.3.4", " 2 A 1.2.3.4", " 3 A 1.2.3.4")
	tells(t, b, []api.Record{a(1, 1, "a", "b"), a(2, 1, "A", "b"), a(3, 1, "a", "b")}, "$ORIGIN b.", "a 1 A 1.2.3.4", "A 2 A 1.2.3.4", "a 3 A 1.2.3.4")
	tells(t, b, []api.Record{a(1, 1, "a", "b"), a(2, 1, "a", "B"), a(3, 1, "a", "B")}, "$ORIGIN b.", "a 1 A 1.2.3.4", "a.B. 2 A 1.2.3.4", " 3 A 1.2.3.4")
	tells(t, b, []api.Record{a(1, 1, "b"), a(2, 1, "B"), a(3, 1, "b"), a(4, 1, "b")}, "$ORIGIN b.", "@ 1 A 1.2.3.4", "B. 2 A 1.2.3.4", "@ 3 A 1.2.3.4", " 4 A 1.2.3.4")
	// A record has come between.
	tells(t, b, []api.Record{a(1, 1, "a", "b"), a(2, 1, "c", "b"), a(3, 1, "a", "b")}, "$ORIGIN b.", "a 1 A 1.2.3.4", "c 2 A 1.2.3.4", "a 3 A 1.2.3.4")
	tells(t, b, []api.Record{a(1, 1, "a", "b"), a(2, 1), a(3, 1, "a", "b")}, "$ORIGIN b.", "a 1 A 1.2.3.4", ". 2 A 1.2.3.4", "a 3 A 1.2.3.4")
	// The root, which has no labels, ahead of all others, and the origin: ahead of the first record there is none.
	tells(t, b, []api.Record{a(1, 1), a(2, 1), {Owner: api.Name{}, Type: 1, Class: 1, TTL: 3, Data: ip}}, "$ORIGIN b.", ". 1 A 1.2.3.4", " 2 A 1.2.3.4", " 3 A 1.2.3.4")
	tells(t, root, []api.Record{a(1, 1), a(2, 1)}, "$ORIGIN .", "@ 1 A 1.2.3.4", " 2 A 1.2.3.4")
	tells(t, b, []api.Record{a(1, 1, "b")}, "$ORIGIN b.", "@ 1 A 1.2.3.4")
	// The same bytes in other labels are another owner.
	tells(t, b, []api.Record{a(1, 1, "a.c", "b"), a(2, 1, "a", "c", "b"), a(3, 1, "a", "c.b"), a(4, 1, "ac", "b")}, "$ORIGIN b.", `a\.c 1 A 1.2.3.4`, "a.c 2 A 1.2.3.4", `a.c\.b. 3 A 1.2.3.4`, "ac 4 A 1.2.3.4")
	tells(t, b, []api.Record{a(1, 1, "c", "a", "b"), a(2, 1, "a", "b"), a(3, 1, "b")}, "$ORIGIN b.", "c.a 1 A 1.2.3.4", "a 2 A 1.2.3.4", "@ 3 A 1.2.3.4")
	// Another type, class, TTL or data count for nothing.
	tells(t, b, []api.Record{a(60, 1, "a", "b"), with(99, ip), a(0, 4, "a", "b")}, "$ORIGIN b.", "a 60 A 1.2.3.4", ` 60 TYPE99 \# 4 01020304`, " 0 HS A 1.2.3.4")
}

// A class is left away, if it is that of the record just ahead; of the first one, if it is IN.
func TestClassesAsAhead(t *testing.T) {
	words := map[api.Class]string{0: "CLASS0 ", 1: "IN ", 2: "CLASS2 ", 3: "CH ", 4: "HS ", 254: "NONE ", 255: "CLASS255 ", 256: "CLASS256 ", 65535: "CLASS65535 "}
	for one, first := range words {
		line := "a 7 " + first + "A 1.2.3.4"
		if one == 1 {
			line = "a 7 A 1.2.3.4"
		}
		tells(t, b, []api.Record{a(7, one, "a", "b")}, "$ORIGIN b.", line)
		for two, second := range words {
			if one == two {
				tells(t, b, []api.Record{a(7, one, "a", "b"), a(8, two, "b")}, "$ORIGIN b.", line, "@ 8 A 1.2.3.4")
				continue
			}
			l := []api.Record{a(7, one, "a", "b"), a(8, two, "a", "b"), a(9, two, "b"), a(7, one, "a", "b")}
			tells(t, b, l, "$ORIGIN b.", line, " 8 "+second+"A 1.2.3.4", "@ 9 A 1.2.3.4", "a 7 "+first+"A 1.2.3.4")
		}
	}
}

// Of the origin, too many records, a record's error, a text that is too long the first is told.
func TestFirstOfTextsErrors(t *testing.T) {
	one, bad := a(1, 1, "a"), with(api.OPT, ip)
	worse := a(1, 1, "")
	long := with(99, api.Data{Raw: make([]byte, 40000)})
	many := slices.Repeat([]api.Record{one}, 2049)
	prints(t, api.Name{""}, many, "", api.ErrLabel)
	prints(t, api.Name{""}, []api.Record{bad}, "", api.ErrLabel)
	prints(t, slices.Repeat(api.Name{"abcdefg"}, 32), []api.Record{worse}, "", api.ErrName)
	prints(t, slices.Repeat(api.Name{"abcdefg"}, 32), nil, "", api.ErrName)
	many[0] = bad
	prints(t, b, many, "", api.ErrLong)
	many[0], many[2048] = one, bad
	prints(t, b, many, "", api.ErrLong)
	prints(t, b, many[1:], "", api.ErrType)
	prints(t, b, append(many[:2046:2046], worse, bad), "", api.ErrLabel)
	prints(t, b, append(many[:2046:2046], bad, worse), "", api.ErrType)
	prints(t, b, []api.Record{bad, worse}, "", api.ErrType)
	prints(t, b, []api.Record{worse, bad}, "", api.ErrLabel)
	prints(t, b, []api.Record{one, a(greatest+1, 1, "a"), worse}, "", api.ErrArg)
	prints(t, b, []api.Record{one, with(api.A, api.Data{}), a(greatest+1, 1, "a")}, "", api.ErrData)
	prints(t, b, []api.Record{long}, "", api.ErrLong)
	prints(t, b, []api.Record{long, bad}, "", api.ErrType)
	prints(t, b, []api.Record{long, long, one, a(greatest+1, 1, "a")}, "", api.ErrArg)
	prints(t, b, []api.Record{long, with(99, api.Data{Raw: make([]byte, 65536)}), bad}, "", api.ErrLong)
	prints(t, b, []api.Record{long, one}, "", api.ErrLong)
	prints(t, b, []api.Record{one, long}, "", api.ErrLong)
}

func TestHowManyRecords(t *testing.T) {
	prints(t, b, nil, "$ORIGIN b.\n", api.OK)
	prints(t, nil, nil, "$ORIGIN .\n", api.OK)
	prints(t, api.Name{}, []api.Record{}, "$ORIGIN .\n", api.OK)
	readsAgain(t, "$ORIGIN b.\n")
	l := slices.Repeat([]api.Record{a(0, 1, "a", "b")}, 2048)
	want := "$ORIGIN b.\na 0 A 1.2.3.4\n" + strings.Repeat(" 0 A 1.2.3.4\n", 2047)
	prints(t, b, l, want, api.OK)
	readsAgain(t, want, l...)
	prints(t, b, append(l, l[0]), "", api.ErrLong)
	prints(t, b, slices.Repeat(l, 3), "", api.ErrLong)
}

// sized are records whose text under b. has so many bytes: the last one's data are as long as it takes.
func sized(size int, ahead ...api.Record) []api.Record {
	last := api.Record{Owner: b, Type: api.CAA, Class: 3, TTL: 7, Data: api.Data{Nums: []uint32{0}, Texts: []string{"i", ""}}}
	l := append(ahead, last)
	s, _ := modelText(b, l)
	l[len(l)-1].Data.Texts[1] = strings.Repeat("x", size-len(s))
	return l
}

func TestHowManyBytes(t *testing.T) {
	want := "$ORIGIN b.\n@ 7 CH CAA 0 i \"" + strings.Repeat("x", 65507) + "\"\n"
	if len(want) != 65536 {
		t.Fatalf("%d bytes", len(want))
	}
	prints(t, b, sized(65536), want, api.OK)
	readsAgain(t, want, sized(65536)...)
	for _, ahead := range [][]api.Record{nil, {a(7, 3, "b")}, {a(7, 1, "a"), a(7, 3, "b"), a(7, 4, "b")}, slices.Repeat([]api.Record{a(0, 255, "\n", "\n")}, 2047)} {
		for size := 65530; size <= 65540; size++ {
			l := sized(size, slices.Clone(ahead)...)
			asModel(t, b, l)
			s, e := paper.Text(b, l)
			if fits := size <= 65536; fits != (e == api.OK) || fits && len(s) != size || !fits && (s != "" || e != api.ErrLong) {
				t.Errorf("of %d bytes, behind %d records: %d, %d bytes", size, len(ahead), e, len(s))
			}
			// What stands behind makes it longer still.
			more := append(l, a(7, 3, "b"))
			if len(more) <= 2048 {
				asModel(t, b, more)
			}
		}
	}
	// One byte more in what stands behind the longest data.
	l := sized(65523)
	prints(t, b, append(l, a(7, 3, "b")), strings.Replace(want, strings.Repeat("x", 13), "", 1)+" 7 A 1.2.3.4\n", api.OK)
	prints(t, b, append(l, a(17, 3, "b")), "", api.ErrLong)
	prints(t, b, append(l, a(7, 3, "a")), "", api.ErrLong)
	prints(t, b, append(l, a(7, 1, "b")), "", api.ErrLong)
}

// Records that have far more bytes together than a text are refused, as soon as they may be.
func TestFarTooLong(t *testing.T) {
	r := with(api.TXT, api.Data{Texts: slices.Repeat([]string{strings.Repeat("\n", 255)}, 255)})
	prints(t, b, slices.Repeat([]api.Record{r}, 2048), "", api.ErrLong)
	r = with(99, api.Data{Raw: make([]byte, 65535)})
	l := slices.Repeat([]api.Record{r}, 2048)
	prints(t, b, l, "", api.ErrLong)
	l[2047].TTL = greatest + 1
	prints(t, b, l, "", api.ErrArg)
}

func TestTextsByChance(t *testing.T) {
	r := rand.New(rand.NewSource(3))
	for range 12000 {
		l := anyRecords(r, r.Intn(8))
		if len(l) > 0 && r.Intn(6) == 0 {
			spot := &l[r.Intn(len(l))]
			switch r.Intn(5) {
			case 0:
				spot.Owner = append(slices.Clone(spot.Owner), "")
			case 1:
				spot.Type = pick(r, []api.Type{0, 41, 128, 255})
			case 2:
				spot.Data.Raw = make([]byte, 7)
			case 3:
				spot.Data.Names = append(slices.Clone(spot.Data.Names), api.Name{""})
			case 4:
				spot.TTL = greatest + 1 + r.Uint32()/2
			}
		}
		origin := anyName(r)
		if r.Intn(30) == 0 {
			origin = append(origin, "")
		}
		asModel(t, origin, l)
	}
}

// Every list of up to three records of some owners and classes.
func TestEveryFewRecords(t *testing.T) {
	var some []api.Record
	for _, owner := range []api.Name{nil, {"b"}, {"B"}, {"a", "b"}, {"A", "b"}} {
		for _, class := range []api.Class{1, 3, 255} {
			some = append(some, a(uint32(len(some)), class, owner...))
		}
	}
	for _, origin := range []api.Name{nil, {"b"}, {"a", "b"}} {
		for _, one := range some {
			asModel(t, origin, []api.Record{one})
			for _, two := range some {
				asModel(t, origin, []api.Record{one, two})
				for _, three := range some {
					asModel(t, origin, []api.Record{one, two, three})
				}
			}
		}
	}
}

// What one call told changes nothing of the next one's answer.
func TestNothingIsKept(t *testing.T) {
	for range 3 {
		for _, class := range []api.Class{3, 1, 255} {
			want := fmt.Sprintf("a 1 %s A 1.2.3.4", modelClass(class))
			tells(t, b, []api.Record{a(1, class, "a", "b")}, "$ORIGIN b.", strings.Replace(want, "IN ", "", 1))
			lines(t, a(1, class, "a"), strings.Replace(want, "a ", "a. ", 1)+"\n", api.OK)
			prints(t, b, []api.Record{a(1, class, "a", "b"), a(1, class, "")}, "", api.ErrLabel)
		}
	}
}

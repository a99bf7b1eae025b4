package paper_test

import (
	"math/rand"
	"slices"
	"strings"
	"testing"

	"nomenclator/api"
	"nomenclator/master"
	"nomenclator/name"
	"nomenclator/paper"
)

// P15.3: what follows.

// What is told is read as the same records, the lines alone, too, in any order and behind anything.
func TestReadAgain(t *testing.T) {
	r := rand.New(rand.NewSource(4))
	for range 3000 {
		l := anyRecords(r, 1+r.Intn(12))
		text, err := paper.Text(anyName(r), l)
		if err != api.OK {
			t.Fatalf("%s are refused: %d", brief(l), err)
		}
		readsAgain(t, text, l...)
		var all strings.Builder
		for _, one := range l {
			line, _ := paper.Line(one)
			all.WriteString(line)
		}
		readsAgain(t, all.String(), l...)
		// Behind what says an origin, a TTL, an owner and a class of its own, and behind itself under another origin.
		ahead := a(9, 4, "o", "h")
		readsAgain(t, "$TTL 77\n$ORIGIN h.\no 9 HS A 1.2.3.4\n"+all.String(), append([]api.Record{ahead}, l...)...)
		if l[0].Class != api.IN {
			readsAgain(t, "$TTL 77\n$ORIGIN h.\no 9 HS A 1.2.3.4\n"+text, append([]api.Record{ahead}, l...)...)
		}
		other, _ := paper.Text(anyName(r), l)
		if l[0].Class != api.IN || l[len(l)-1].Class == api.IN {
			readsAgain(t, text+other, slices.Concat(l, l)...)
		}
	}
}

// A text says no class where IN is meant at its beginning: nothing stands ahead of it.
func TestTextStandsAlone(t *testing.T) {
	l, f := master.Parse("o 9 HS A 1.2.3.4\n$ORIGIN b.\na 1 A 1.2.3.4\n", nil)
	if s, err := paper.Text(b, []api.Record{a(1, 1, "a", "b")}); s != "$ORIGIN b.\na 1 A 1.2.3.4\n" || err != api.OK || f != (api.Fault{}) || l[1].Class != 4 {
		t.Errorf("Text = %q, %d; Parse = %v, %v", s, err, l, f)
	}
}

// An entry has room for 64 words: with one more it is told all the same, but not read.
func TestManyWords(t *testing.T) {
	for _, x := range []struct {
		class api.Class
		ahead string
		room  int
	}{{1, "a 60 TXT", 61}, {3, "a 60 CH TXT", 60}} {
		for _, more := range []int{0, 1, 500} {
			r := with(api.TXT, api.Data{Texts: slices.Repeat([]string{""}, x.room+more)})
			r.Class = x.class
			s := "$ORIGIN b.\n" + x.ahead + strings.Repeat(` ""`, x.room+more) + "\n"
			prints(t, b, []api.Record{r}, s, api.OK)
			if more == 0 {
				readsAgain(t, s, r)
			} else if _, f := master.Parse(s, nil); f != (api.Fault{Err: api.ErrLong, Line: 2}) {
				t.Errorf("%d texts are read: {%d %d}", x.room+more, f.Err, f.Line)
			}
		}
	}
	// One that takes the owner over has room for a text more.
	l := []api.Record{a(1, 1, "a", "b"), with(api.TXT, api.Data{Texts: slices.Repeat([]string{""}, 62)})}
	tells(t, b, l, "$ORIGIN b.", "a 1 A 1.2.3.4", " 60 TXT"+strings.Repeat(` ""`, 62))
}

// Text of what was read of a text is a text that is read the same, however the first one told it.
func TestTextOfWhatWasRead(t *testing.T) {
	const s = "$TTL 1h\n$ORIGIN b.\n@ IN SOA ns h (1 2 ; three\n3 4 5)\n NS ns\n NS .\nns A 1.2.3.4\n AAAA ::1\nA.ns 2w MX 10 @\n$ORIGIN B.\nns CH TXT a \"b;\\\"c\" \\;\n CLASS255 TYPE1 \\# 4 0102 0304\n"
	l, f := master.Parse(s, nil)
	if f != (api.Fault{}) {
		t.Fatalf("{%d %d}", f.Err, f.Line)
	}
	tells(t, b, l, "$ORIGIN b.",
		"@ 3600 SOA ns.b. h.b. 1 2 3 4 5",
		" 3600 NS ns.b.",
		" 3600 NS .",
		"ns 3600 A 1.2.3.4",
		" 3600 AAAA ::1",
		"A.ns 1209600 MX 10 b.",
		`ns.B. 3600 CH TXT "a" "b;\"c" ";"`,
		" 3600 CLASS255 A 1.2.3.4")
}

func FuzzText(f *testing.F) {
	for _, s := range []string{"", "a 60 IN A 1.2.3.4", "$ORIGIN b.\na 60 A 1.2.3.4\n 60 TXT \"x\"\n@ 5 CH A 1.2.3.5", "$TTL 5\n\\@ NS @\n\\$x.B. SOA a b 1 2 3 4 5\n. CLASS255 TYPE99 \\# 1 00\n A ANY 1.2.3.4", "$TTL 0\nx CAA 0 i \"\\\"\\010\"\n HS SRV 1 2 3 .\n MX 1 a\\.b\n AAAA ::"} {
		f.Add(s, "b.")
	}
	f.Fuzz(func(t *testing.T, s, top string) {
		origin, _ := name.Parse(top)
		l, fault := master.Parse(s, origin)
		if fault != (api.Fault{}) {
			return
		}
		asModel(t, origin, l)
		asModel(t, nil, l)
		for _, r := range l {
			want, wrong := modelLine(r)
			lines(t, r, want, wrong)
			shortens(t, r.Owner, origin, modelShort(r.Owner, origin), api.OK)
		}
	})
}

package paper_test

import (
	"math/rand"
	"slices"
	"strings"
	"testing"

	"nomenclator/api"
	"nomenclator/name"
	"nomenclator/paper"
)

// P15.1: Short.

func TestShort(t *testing.T) {
	for _, x := range []struct {
		n, origin api.Name
		want      string
	}{
		{api.Name{"a", "b"}, api.Name{"b"}, "a"},
		{api.Name{"c", "a", "b"}, api.Name{"b"}, "c.a"},
		{api.Name{"c", "a", "b"}, api.Name{"a", "b"}, "c"},
		{api.Name{"b", "b"}, api.Name{"b"}, "b"},
		{api.Name{"b", "b", "b"}, api.Name{"b"}, "b.b"},
		{api.Name{"A", "b"}, api.Name{"b"}, "A"},
		// The origin.
		{api.Name{"b"}, api.Name{"b"}, "@"},
		{api.Name{"a", "B"}, api.Name{"a", "B"}, "@"},
		{nil, nil, "@"},
		{api.Name{}, nil, "@"},
		{nil, api.Name{}, "@"},
		// The root as the origin: whole names, for short ones would be read under it all the same, but are not told so.
		{api.Name{"a"}, nil, "a."},
		{api.Name{"a", "b"}, api.Name{}, "a.b."},
		{api.Name{"@"}, nil, `\@.`},
		// The root beside others.
		{nil, api.Name{"b"}, "."},
		{nil, api.Name{"a", "b"}, "."},
		// Beside it.
		{api.Name{"a"}, api.Name{"b"}, "a."},
		{api.Name{"a", "c"}, api.Name{"b"}, "a.c."},
		{api.Name{"b", "a"}, api.Name{"b"}, "b.a."},
		{api.Name{"ab"}, api.Name{"b"}, "ab."},
		{api.Name{"a.b"}, api.Name{"b"}, `a\.b.`},
		{api.Name{"a", "b"}, api.Name{"a.b"}, "a.b."},
		{api.Name{"a.b"}, api.Name{"a", "b"}, `a\.b.`},
		// Above it.
		{api.Name{"b"}, api.Name{"a", "b"}, "b."},
		{api.Name{"b"}, api.Name{"b", "b"}, "b."},
		// The same but for great and small letters.
		{api.Name{"a", "B"}, api.Name{"b"}, "a.B."},
		{api.Name{"B"}, api.Name{"b"}, "B."},
		{api.Name{"b"}, api.Name{"B"}, "b."},
		{api.Name{"c", "A", "b"}, api.Name{"a", "b"}, "c.A.b."},
		// Labels that want escapes.
		{api.Name{"@", "b"}, api.Name{"b"}, `\@`},
		{api.Name{"@"}, api.Name{"@"}, "@"},
		{api.Name{"@", "@"}, api.Name{"@"}, `\@`},
		{api.Name{"@"}, api.Name{"b"}, `\@.`},
		{api.Name{"$ORIGIN", "b"}, api.Name{"b"}, `\$ORIGIN`},
		{api.Name{"a.", "b"}, api.Name{"b"}, `a\.`},
		{api.Name{".", "b"}, api.Name{"b"}, `\.`},
		{api.Name{"c", "a..", "b"}, api.Name{"b"}, `c.a\.\.`},
		{api.Name{`\`, "b"}, api.Name{"b"}, `\\`},
		{api.Name{`a\.`, "b"}, api.Name{"b"}, `a\\\.`},
		{api.Name{`";()`, " \n\x00\xff", "b"}, api.Name{"b"}, `\"\;\(\).\032\010\000\255`},
		{api.Name{"a", "\x01b"}, api.Name{"b"}, `a.\001b.`},
		{api.Name{"a", "c\x01b", "b"}, api.Name{"b"}, `a.c\001b`},
		{api.Name{"60", "b"}, api.Name{"b"}, "60"},
		{api.Name{"*", "b"}, api.Name{"b"}, "*"},
		{api.Name{"a", "é"}, api.Name{"é"}, "a"},
		{api.Name{"a", "\xff"}, api.Name{"\xfe"}, `a.\255.`},
	} {
		shortens(t, x.n, x.origin, x.want, api.OK)
		if n, e := name.Relative(x.want, x.origin); e != api.OK || !slices.Equal(n, x.n) {
			t.Errorf("Relative(%q, %q) = %q, %d; want %q", x.want, x.origin, n, e, x.n)
		}
	}
}

// Short tells the name's error ahead of the origin's, Text the origin's ahead of an owner's.
func TestShortRefuses(t *testing.T) {
	long := strings.Repeat("a", 63)
	names := []api.Name{nil, {"b"}, {"a", "b"}, {long, long, long, long[:61]}, {""}, {"a", ""}, {"", "b"}, {long + "a"}, {long, long, long, long}, {long, long, long, long[:62]}, {long, long, long, long, ""}}
	wrong := []api.Errno{0, 0, 0, 0, api.ErrLabel, api.ErrLabel, api.ErrLabel, api.ErrLabel, api.ErrName, api.ErrName, api.ErrLabel}
	for i, n := range names {
		for j, origin := range names {
			l := []api.Record{a(1, 1, n...)}
			switch {
			case wrong[i] == api.OK && wrong[j] == api.OK:
				want := modelShort(n, origin)
				shortens(t, n, origin, want, api.OK)
				prints(t, origin, l, "$ORIGIN "+textOf(origin)+"\n"+want+" 1 A 1.2.3.4\n", api.OK)
			case wrong[i] == api.OK:
				shortens(t, n, origin, "", wrong[j])
				prints(t, origin, l, "", wrong[j])
			case wrong[j] == api.OK:
				shortens(t, n, origin, "", wrong[i])
				prints(t, origin, l, "", wrong[i])
			default:
				shortens(t, n, origin, "", wrong[i])
				prints(t, origin, l, "", wrong[j])
			}
		}
	}
}

// someNames are the names of up to three labels of these.
func someNames(of ...string) []api.Name {
	l := []api.Name{nil}
	for from := 0; len(l) < 1+len(of)+len(of)*len(of)+len(of)*len(of)*len(of); from++ {
		for _, one := range of {
			l = append(l, slices.Concat(l[from], api.Name{one}))
		}
	}
	return l
}

func TestEveryFewLabels(t *testing.T) {
	l := someNames("a", "B", "b", ".", "@", "a.b", `\`)
	if len(l) != 400 {
		t.Fatalf("%d names", len(l))
	}
	for _, n := range l {
		for _, origin := range l {
			want := modelShort(n, origin)
			shortens(t, n, origin, want, api.OK)
			if back, e := name.Relative(want, origin); e != api.OK || !slices.Equal(back, n) {
				t.Fatalf("Relative(%q, %q) = %q, %d; want %q", want, origin, back, e, n)
			}
		}
	}
}

func TestShortByChance(t *testing.T) {
	r := rand.New(rand.NewSource(2))
	for range 50000 {
		n, origin := anyName(r), anyName(r)
		if r.Intn(2) == 0 {
			origin = n[r.Intn(len(n)+1):]
		}
		s, e := paper.Short(n, origin)
		if want := modelShort(n, origin); s != want || e != api.OK {
			t.Fatalf("Short(%q, %q) = %q, %d; want %q", n, origin, s, e, want)
		}
		if back, e := name.Relative(s, origin); e != api.OK || !slices.Equal(back, n) {
			t.Fatalf("Relative(%q, %q) = %q, %d; want %q", s, origin, back, e, n)
		}
	}
}

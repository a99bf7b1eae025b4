package seek_test

import (
	"fmt"
	"slices"
	"strings"
	"testing"

	"nomenclator/api"
	"nomenclator/master"
	"nomenclator/seek"
	"nomenclator/zone"
)

// of tells the name that a text of labels with dots behind them is; the root is a dot alone.
func of(s string) api.Name {
	if s == "." {
		return nil
	}
	l := strings.Split(s, ".")
	return api.Name(l[:len(l)-1])
}

func brief(v any) string { return fmt.Sprintf("%.600s", fmt.Sprintf("%v", v)) }

// tried tells the zone that lines of a master file say, in any order, if it may be.
func tried(origin string, lines ...string) (api.Zone, bool) {
	l, f := master.Parse("$TTL 60\n"+strings.Join(lines, "\n"), nil)
	if f.Err != api.OK {
		panic(brief(lines))
	}
	z, e := zone.Of(of(origin), l)
	return z, e == api.OK
}

// tidy tells it where it may be.
func tidy(origin string, lines ...string) api.Zone {
	z, may := tried(origin, lines...)
	if !may {
		panic(brief(lines))
	}
	return z
}

// The lines that no zone of the origin a. is without, and those of the chapter's zone.
const (
	soa  = "a. SOA ns.a. a. 1 2 3 4 30"
	apex = "a. NS ns.a."
)

func with(lines ...string) []string {
	return slices.Concat([]string{apex, soa, "ns.a. A 10.0.0.1", "www.a. CNAME ns.a.", "b.a. NS ns.b.a.", "ns.b.a. A 10.0.0.2"}, lines)
}

func example() api.Zone { return tidy("a.", with("*.w.a. A 10.0.0.3")...) }

// found is what is told of a name, as texts; a kind that has no Node or no Closest has nothing there.
type found struct {
	kind          api.Kind
	node, closest string
}

func (f found) spot() api.Spot {
	s := api.Spot{Kind: f.kind}
	if f.node != "" {
		s.Node = of(f.node)
	}
	if f.closest != "" {
		s.Closest = of(f.closest)
	}
	return s
}

func equal(a, b api.Spot) bool {
	return a.Kind == b.Kind && slices.Equal(a.Node, b.Node) && slices.Equal(a.Closest, b.Closest)
}

// finds holds what is told of a name to what must be, letter by letter.
func finds(t *testing.T, z api.Zone, n api.Name, want api.Spot) {
	t.Helper()
	if s, e := seek.Find(z, n); e != api.OK || !equal(s, want) {
		t.Errorf("Find(%s, %q) = %q, %d, not %q", brief(z), n, s, e, want)
	}
}

// nears holds the closest name and the depth to what must be.
func nears(t *testing.T, z api.Zone, n, want api.Name) {
	t.Helper()
	if c, e := seek.Closest(z, n); e != api.OK || !slices.Equal(c, want) {
		t.Errorf("Closest(%s, %q) = %q, %d, not %q", brief(z), n, c, e, want)
	}
	if d, e := seek.Depth(z, n); e != api.OK || d != len(n)-len(want) {
		t.Errorf("Depth(%s, %q) = %d, %d, not %d", brief(z), n, d, e, len(n)-len(want))
	}
}

// all holds all three calls to the other telling.
func all(t *testing.T, z api.Zone, n api.Name) api.Kind {
	t.Helper()
	s := modelSpot(z, n)
	finds(t, z, n, s)
	nears(t, z, n, modelClosest(z, n))
	return s.Kind
}

// refuses holds all three calls to an error, beside which nothing is told.
func refuses(t *testing.T, z api.Zone, n api.Name, want api.Errno) {
	t.Helper()
	if s, e := seek.Find(z, n); e != want || s.Kind != 0 || s.Node != nil || s.Closest != nil {
		t.Errorf("Find(%s, %s) = %q, %d, not %d", brief(z), brief(n), s, e, want)
	}
	if c, e := seek.Closest(z, n); e != want || c != nil {
		t.Errorf("Closest(%s, %s) = %q, %d, not %d", brief(z), brief(n), c, e, want)
	}
	if d, e := seek.Depth(z, n); e != want || d != 0 {
		t.Errorf("Depth(%s, %s) = %d, %d, not %d", brief(z), brief(n), d, e, want)
	}
}

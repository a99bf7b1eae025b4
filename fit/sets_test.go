package fit_test

import (
	"math"
	"math/rand"
	"slices"
	"strings"
	"testing"

	"nomenclator/api"
	"nomenclator/fit"
	"nomenclator/message"
)

// P12.1: Sets.

func counts(t *testing.T, title string, m api.Message, want ...int) {
	t.Helper()
	if got := fit.Sets(m); !slices.Equal(got, want) {
		t.Errorf("%s: Sets = %v, not %v", title, got, want)
	}
}

func TestNoSets(t *testing.T) {
	for title, m := range map[string]api.Message{
		"nothing":            {},
		"empty lists":        {Questions: []api.Question{}, Answer: list(), Authority: list(), Additional: list()},
		"questions alone":    {Questions: []api.Question{ask("a."), ask("a.")}},
		"the saying record":  beside(opt(1232)),
		"a saying one named": beside(rec("a.", api.OPT, raw(1, 2))),
	} {
		counts(t, title, m)
	}
}

// each tells of the same records in each of the lists.
func each(l []api.Record) map[string]api.Message {
	return map[string]api.Message{"the answer": {Answer: l}, "the authority": {Authority: l}, "additional": {Additional: l}}
}

func TestRuns(t *testing.T) {
	a := addr("a.b.", 1)
	but := func(f func(*api.Record)) api.Record {
		r := a
		f(&r)
		return r
	}
	owner := func(labels ...string) api.Record { return but(func(r *api.Record) { r.Owner = labels }) }
	for title, c := range map[string]struct {
		l    []api.Record
		want []int
	}{
		"one":                       {list(a), []int{1}},
		"twice the same":            {list(a, a), []int{2}},
		"many":                      {slices.Repeat(list(a), 300), []int{300}},
		"other data":                {list(a, addr("a.b.", 2), addr("a.b.", 1)), []int{3}},
		"another TTL":               {list(a, but(func(r *api.Record) { r.TTL = 7 })), []int{2}},
		"another owner alone":       {list(a, addr("b.", 1)), []int{1, 1}},
		"a first label more":        {list(a, owner("c", "a", "b")), []int{1, 1}},
		"a last label more":         {list(a, owner("a", "b", "c")), []int{1, 1}},
		"labels turned about":       {list(a, owner("b", "a")), []int{1, 1}},
		"one label with a dot":      {list(a, owner("a.b")), []int{1, 1}},
		"the root":                  {list(owner(), owner(), a), []int{2, 1}},
		"another type alone":        {list(a, but(func(r *api.Record) { r.Type = 99 })), []int{1, 1}},
		"a type 256 higher":         {list(but(func(r *api.Record) { r.Type = 256 }), but(func(r *api.Record) { r.Type = 512 })), []int{1, 1}},
		"another class alone":       {list(a, but(func(r *api.Record) { r.Class = 3 })), []int{1, 1}},
		"a class 256 higher":        {list(a, but(func(r *api.Record) { r.Class = 257 })), []int{1, 1}},
		"type and class exchanged":  {list(but(func(r *api.Record) { r.Type, r.Class = 3, 99 }), but(func(r *api.Record) { r.Type, r.Class = 99, 3 })), []int{1, 1}},
		"great and small letters":   {list(a, owner("A", "b"), owner("a", "B"), owner("A", "B"), a), []int{5}},
		"great letters in the name": {list(owner("www"), owner("wWw"), owner("WWW"), owner("wwv")), []int{3, 1}},
		"bytes beside the letters":  {list(owner("@"), owner("`"), owner("["), owner("{")), []int{1, 1, 1, 1}},
		"letters beyond 127":        {list(owner("\xc0"), owner("\xe0"), owner("É"), owner("é")), []int{1, 1, 1, 1}},
		"the long s":                {list(owner("s"), owner("ſ"), owner("S")), []int{1, 1, 1}},
		"one comes again":           {list(a, addr("b.", 1), a, a), []int{1, 1, 2}},
		"to and fro":                {list(a, addr("b.", 1), a, addr("b.", 2)), []int{1, 1, 1, 1}},
		"three owners":              {list(a, a, a, addr("b.", 1), addr("c.", 1), addr("c.", 2)), []int{3, 1, 2}},
		"data that do not count":    {list(rec("a.b.", api.NS, host("x.")), rec("a.b.", api.NS, host("y.")), rec("a.b.", api.SOA, api.Data{})), []int{2, 1}},
		"zero values":               {make([]api.Record, 3), []int{3}},
	} {
		for where, m := range each(c.l) {
			counts(t, title+", "+where, m, c.want...)
		}
	}
}

// A set ends with its list.
func TestRunsEndWithTheirList(t *testing.T) {
	a, b := addr("a.", 1), addr("b.", 1)
	counts(t, "in all three", api.Message{Answer: list(a, a), Authority: list(a, a, a), Additional: list(a)}, 2, 3, 1)
	counts(t, "with nothing in between", api.Message{Answer: list(a), Additional: list(a)}, 1, 1)
	counts(t, "the last two", api.Message{Authority: list(b, a), Additional: list(a, b)}, 1, 1, 1, 1)
	counts(t, "the first two", api.Message{Answer: list(b, a, a), Authority: list(a, b)}, 1, 2, 1, 1)
	counts(t, "with the saying record ahead", api.Message{Authority: list(a), Additional: list(opt(1), a)}, 1, 1)
}

// The saying record is no part of a set, and parts none.
func TestTheSayingRecord(t *testing.T) {
	a, b, o := addr("a.", 1), addr("b.", 1), opt(1232)
	for title, c := range map[string]struct {
		l    []api.Record
		want []int
	}{
		"alone":                        {list(o), nil},
		"ahead of a run":               {list(o, a, a), []int{2}},
		"in the midst of a run":        {list(a, o, a, a), []int{3}},
		"behind a run":                 {list(a, a, o), []int{2}},
		"between two runs":             {list(a, a, o, b), []int{2, 1}},
		"ahead of two":                 {list(o, a, b, b), []int{1, 2}},
		"behind two":                   {list(a, b, b, o), []int{1, 2}},
		"a second one":                 {list(o, o), []int{1}},
		"a second and a third":         {list(o, o, o), []int{2}},
		"a third of another class":     {list(o, o, opt(7)), []int{1, 1}},
		"the second one like no other": {list(opt(7), o), []int{1}},
		"a second one apart":           {list(o, a, o, a), []int{1, 1, 1}},
		"a second one ahead of a run":  {list(a, o, o, a, a), []int{1, 1, 2}},
		"a second one behind a run":    {list(a, o, a, o), []int{2, 1}},
		"named, then not":              {list(rec("a.", api.OPT, raw()), o, o), []int{2}},
		"that says nothing":            {list(a, api.Record{Owner: api.Name{""}, Type: api.OPT, TTL: 1}, a), []int{2}},
	} {
		counts(t, title, beside(c.l...), c.want...)
		counts(t, title+", behind others", api.Message{Answer: list(b), Authority: list(b, a), Additional: c.l}, append([]int{1, 1, 1}, c.want...)...)
	}
}

// Elsewhere a record of the type OPT is one like all others.
func TestOPTElsewhere(t *testing.T) {
	a, o := addr("a.", 1), opt(1232)
	counts(t, "in the answer", api.Message{Answer: list(o, o, a, o)}, 2, 1, 1)
	counts(t, "in the authority", api.Message{Authority: list(a, o, a)}, 1, 1, 1)
	counts(t, "everywhere", api.Message{Answer: list(o), Authority: list(o, o), Additional: list(o)}, 1, 2)
	counts(t, "everywhere, a second one, too", api.Message{Answer: list(o), Authority: list(o), Additional: list(a, o, a, o)}, 1, 1, 2, 1)
}

// Whatever the message is: Sets asks for nothing but owners, types and classes.
func TestSetsOfMessagesThatMayNotBe(t *testing.T) {
	x := strings.Repeat("x", 300)
	l := []api.Record{{Owner: api.Name{"", x}, Type: api.ANY, Data: host("a.")}, {Owner: api.Name{"", strings.ToUpper(x)}, Type: api.ANY}, {Owner: api.Name{x, ""}, Type: api.ANY}, {}, {Data: raw(1)}}
	counts(t, "names, types and data", api.Message{Opcode: -1, Rcode: math.MaxInt, Questions: make([]api.Question, 40), Answer: l, Additional: l}, 2, 1, 2, 2, 1, 2)
	counts(t, "long names", api.Message{Answer: []api.Record{{Owner: slices.Repeat(api.Name{"a"}, 5000)}, {Owner: slices.Repeat(api.Name{"A"}, 5000)}, {Owner: slices.Repeat(api.Name{"A"}, 5001)}}}, 2, 1)
	counts(t, "many records", api.Message{Answer: make([]api.Record, 70000), Authority: make([]api.Record, 513), Additional: slices.Repeat(list(opt(1)), 2000)}, 70000, 513, 1999)
	many := slices.Repeat(list(addr("a.", 1), addr("b.", 1)), 600)
	counts(t, "many sets", api.Message{Authority: many}, slices.Repeat([]int{1}, 1200)...)
}

// What Sets tells are all records but the saying one, by chance.
func TestSetsByChance(t *testing.T) {
	r := rand.New(rand.NewSource(121))
	for range 3000 {
		m := some(r, 8)
		number, sets := numbers(m)
		want := make([]int, sets)
		records := 0
		for _, n := range slices.Concat(number[:]...) {
			if n >= 0 {
				want[n]++
				records++
			}
		}
		counts(t, brief(m), m, want...)
		sum := 0
		for _, n := range fit.Sets(m) {
			sum += n
		}
		if all := len(m.Answer) + len(m.Authority) + len(m.Additional); sum != records || sum != all && sum != all-1 {
			t.Fatalf("%s: %d records in sets of %d", brief(m), sum, all)
		}
		if !slices.Equal(fit.Sets(message.Copy(m)), want) {
			t.Fatalf("%s: another message of the same has other sets", brief(m))
		}
	}
}

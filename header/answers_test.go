package header_test

import (
	"math/rand"
	"reflect"
	"slices"
	"strings"
	"testing"

	"nomenclator/api"
	"nomenclator/header"
)

func ask(labels ...string) api.Question {
	return api.Question{Name: labels, Type: api.A, Class: api.IN}
}

// pair tells a Response and what it answers, with these questions each.
func pair(of, to []api.Question) (api.Message, api.Message) {
	return api.Message{ID: 7, Response: true, Questions: of}, api.Message{ID: 7, Questions: to}
}

func checkAnswers(t *testing.T, m, to api.Message, want bool) {
	t.Helper()
	if got := header.Answers(m, to); got != want {
		t.Errorf("Answers(%+v, %+v) = %v", m, to, got)
	}
}

// P8.2: the head's part.

func TestAnswersByHead(t *testing.T) {
	for _, c := range []struct {
		name   string
		change func(m, to *api.Message)
		want   bool
	}{
		{"as they are", func(m, to *api.Message) {}, true},
		{"ID 0", func(m, to *api.Message) { m.ID, to.ID = 0, 0 }, true},
		{"ID 65535", func(m, to *api.Message) { m.ID, to.ID = 65535, 65535 }, true},
		{"another ID", func(m, to *api.Message) { m.ID = 8 }, false},
		{"another ID asked", func(m, to *api.Message) { to.ID = 8 }, false},
		{"an ID that differs in the first byte", func(m, to *api.Message) { m.ID = 7 + 256 }, false},
		{"the same Opcode", func(m, to *api.Message) { m.Opcode, to.Opcode = 4, 4 }, true},
		{"another Opcode", func(m, to *api.Message) { m.Opcode = 4 }, false},
		{"another Opcode asked", func(m, to *api.Message) { to.Opcode = 1 }, false},
		{"an Opcode that is the same in four bits", func(m, to *api.Message) { m.Opcode = 16 }, false},
		{"Opcodes that may not be", func(m, to *api.Message) { m.Opcode, to.Opcode = -1, -1 }, true},
		{"no Response", func(m, to *api.Message) { m.Response = false }, false},
		{"to a Response", func(m, to *api.Message) { to.Response = true }, false},
		{"turned about", func(m, to *api.Message) { m.Response, to.Response = false, true }, false},
		{"all other flags, and the Rcode", func(m, to *api.Message) {
			m.AA, m.TC, m.RD, m.RA, m.AD, m.CD, m.Rcode = true, true, true, true, true, true, 3
		}, true},
		{"all other flags asked", func(m, to *api.Message) {
			to.AA, to.TC, to.RD, to.RA, to.AD, to.CD, to.Rcode = true, true, true, true, true, true, 16
		}, true},
		{"records", func(m, to *api.Message) {
			m.Answer, m.Authority, m.Additional = make([]api.Record, 1), make([]api.Record, 2), make([]api.Record, 3)
		}, true},
		{"records asked", func(m, to *api.Message) {
			to.Answer, to.Authority, to.Additional = make([]api.Record, 1), make([]api.Record, 2), make([]api.Record, 3)
		}, true},
	} {
		for _, q := range [][]api.Question{nil, {ask("www", "a")}} {
			m, to := pair(q, slices.Clone(q))
			c.change(&m, &to)
			if got := header.Answers(m, to); got != c.want {
				t.Errorf("%s: %v", c.name, got)
			}
		}
	}
}

// P8.2: the questions.

func TestAnswersByQuestions(t *testing.T) {
	a, b, c := ask("a"), ask("b"), ask("c")
	other := api.Question{Name: api.Name{"a"}, Type: api.AAAA, Class: api.IN}
	chaos := api.Question{Name: api.Name{"a"}, Type: api.A, Class: 3}
	for _, x := range []struct {
		of, to []api.Question
		want   bool
	}{
		{nil, nil, true},
		{[]api.Question{}, nil, true},
		{nil, []api.Question{}, true},
		{[]api.Question{a}, nil, false},
		{nil, []api.Question{a}, false},
		{[]api.Question{{}}, nil, false},
		{nil, []api.Question{{}}, false},
		{[]api.Question{{}}, []api.Question{{}}, true},
		{[]api.Question{a}, []api.Question{a}, true},
		{[]api.Question{a}, []api.Question{b}, false},
		{[]api.Question{a, b}, []api.Question{a}, false},
		{[]api.Question{a}, []api.Question{a, b}, false},
		{[]api.Question{a, a}, []api.Question{a}, false},
		{[]api.Question{a, b}, []api.Question{a, b}, true},
		{[]api.Question{a, b}, []api.Question{b, a}, false},
		{[]api.Question{a, b, c}, []api.Question{a, c, b}, false},
		{[]api.Question{a, b, c}, []api.Question{a, b, c}, true},
		{[]api.Question{a, a, b}, []api.Question{a, b, b}, false},
		{[]api.Question{a}, []api.Question{other}, false},
		{[]api.Question{other}, []api.Question{a}, false},
		{[]api.Question{a}, []api.Question{chaos}, false},
		{[]api.Question{chaos}, []api.Question{a}, false},
		{[]api.Question{chaos}, []api.Question{chaos}, true},
		{[]api.Question{other, chaos}, []api.Question{other, chaos}, true},
		{[]api.Question{a, other}, []api.Question{a, chaos}, false},
		{[]api.Question{{Name: api.Name{"a"}, Type: api.ANY, Class: 255}}, []api.Question{a}, false},
		{[]api.Question{{Name: api.Name{"a"}, Type: 1 + 256, Class: api.IN}}, []api.Question{a}, false},
		{[]api.Question{{Name: api.Name{"a"}, Type: api.A, Class: 1 + 256}}, []api.Question{a}, false},
	} {
		m, to := pair(x.of, x.to)
		checkAnswers(t, m, to, x.want)
	}
}

// P8.2: the names.

func TestAnswersByNames(t *testing.T) {
	long := strings.Repeat("x", 64)
	for _, x := range []struct {
		of, to api.Name
		want   bool
	}{
		{nil, nil, true},
		{nil, api.Name{}, true},
		{api.Name{"a"}, api.Name{"A"}, true},
		{api.Name{"A"}, api.Name{"a"}, true},
		{api.Name{"wWw", "Az", "zA"}, api.Name{"WwW", "aZ", "Za"}, true},
		{api.Name{"www", "a"}, api.Name{"www", "b"}, false},
		{api.Name{"www", "a"}, api.Name{"wwx", "a"}, false},
		{api.Name{"xww", "a"}, api.Name{"www", "a"}, false},
		{api.Name{"www", "a"}, api.Name{"ww", "a"}, false},
		{api.Name{"ww", "a"}, api.Name{"www", "a"}, false},
		{api.Name{"a"}, nil, false},
		{nil, api.Name{"a"}, false},
		{api.Name{"www", "a"}, api.Name{"a"}, false},
		{api.Name{"a"}, api.Name{"www", "a"}, false},
		{api.Name{"a"}, api.Name{"a", "b"}, false},
		{api.Name{"a", "b"}, api.Name{"b", "a"}, false},
		{api.Name{"a", "b"}, api.Name{"a", "b"}, true},
		{api.Name{"ab"}, api.Name{"a", "b"}, false},
		{api.Name{"a.b"}, api.Name{"a", "b"}, false},
		{api.Name{"", "ab"}, api.Name{"ab", ""}, false},
		{api.Name{"a", "bc"}, api.Name{"ab", "c"}, false},
		{api.Name{""}, api.Name{""}, true},
		{api.Name{""}, nil, false},
		{nil, api.Name{""}, false},
		{api.Name{"", ""}, api.Name{""}, false},
		{api.Name{long}, api.Name{strings.ToUpper(long)}, true},
		{api.Name{long}, api.Name{long + "x"}, false},
		{api.Name{long + "y"}, api.Name{long + "x"}, false},
		{api.Name{"a", "", long, "\x00."}, api.Name{"A", "", long, "\x00."}, true},
		{make(api.Name, 300), make(api.Name, 300), true},
		{make(api.Name, 300), make(api.Name, 301), false},
		// Letters are those from A to Z alone, and bytes are folded, not runes.
		{api.Name{"\u212a"}, api.Name{"k"}, false},
		{api.Name{"\u017f"}, api.Name{"s"}, false},
		{api.Name{"é"}, api.Name{"É"}, false},
		{api.Name{"\xff"}, api.Name{"\xfe"}, false},
		{api.Name{"\xff"}, api.Name{"\ufffd"}, false},
		{api.Name{"\xffA"}, api.Name{"\xffa"}, true},
		{api.Name{"@"}, api.Name{"`"}, false},
		{api.Name{"["}, api.Name{"{"}, false},
	} {
		m, to := pair([]api.Question{ask(x.of...)}, []api.Question{ask(x.to...)})
		checkAnswers(t, m, to, x.want)
		m, to = pair([]api.Question{ask("q"), ask(x.of...)}, []api.Question{ask("Q"), ask(x.to...)})
		checkAnswers(t, m, to, x.want)
	}
}

func TestAnswersByEveryPairOfBytes(t *testing.T) {
	fold := func(c int) int {
		if strings.IndexByte("ABCDEFGHIJKLMNOPQRSTUVWXYZ", byte(c)) >= 0 {
			return c + 32
		}
		return c
	}
	for x := range 256 {
		for y := range 256 {
			m, to := pair([]api.Question{ask("q" + string([]byte{byte(x)}))}, []api.Question{ask("q" + string([]byte{byte(y)}))})
			if got := header.Answers(m, to); got != (fold(x) == fold(y)) {
				t.Fatalf("%d, %d: %v", x, y, got)
			}
		}
	}
}

// flat tells a message's ID, Opcode and questions as one text, folded.
func flat(m api.Message) []any {
	l := []any{m.ID, m.Opcode, len(m.Questions)}
	for _, q := range m.Questions {
		l = append(l, q.Type, q.Class, len(q.Name))
		for _, x := range q.Name {
			l = append(l, strings.Map(func(r rune) rune {
				if 'A' <= r && r <= 'Z' {
					return r + 32
				}
				return r
			}, x))
		}
	}
	return l
}

func TestAnswersByModel(t *testing.T) {
	r := rand.New(rand.NewSource(82))
	rare := func() bool { return r.Intn(16) == 0 }
	yes := 0
	for range 30000 {
		var m, to api.Message
		m.Response, to.Response = !rare(), rare()
		if rare() {
			m.ID = 1
		}
		if rare() {
			to.Opcode = 1
		}
		for range r.Intn(3) {
			q := ask([]string{"a", "bB", ""}[:r.Intn(4)]...)
			m.Questions = append(m.Questions, q)
			p := ask(q.Name...)
			p.Name = slices.Clone(p.Name)
			for i := range p.Name {
				if r.Intn(2) == 0 {
					p.Name[i] = strings.ToUpper(p.Name[i])
				}
				if rare() {
					p.Name[i] += "b"
				}
			}
			if rare() {
				p.Type = api.ANY
			}
			if rare() {
				p.Class = 255
			}
			to.Questions = append(to.Questions, p)
		}
		if rare() {
			to.Questions = append(to.Questions, ask())
		}
		want := m.Response && !to.Response && reflect.DeepEqual(flat(m), flat(to))
		checkAnswers(t, m, to, want)
		if want {
			yes++
		}
	}
	if yes < 5000 || yes > 25000 {
		t.Error("the model says yes too seldom or too often:", yes)
	}
}

// Rule 4: nothing that was handed in is changed, its spare room neither read nor written.
func TestAnswersLeavesAlone(t *testing.T) {
	names := api.Name{"wWw", "A", "spare"}
	of := []api.Question{{Name: names[:2], Type: api.A, Class: api.IN}, ask("spare")}
	to := []api.Question{ask("www", "a"), ask("other")}
	m, asked := pair(of[:1], to[:1])
	checkAnswers(t, m, asked, true)
	names[2], of[1], to[1] = "else", ask("more"), ask("less")
	checkAnswers(t, m, asked, true)
	if !slices.Equal(names, api.Name{"wWw", "A", "else"}) || len(of[0].Name) != 2 || of[1].Name[0] != "more" || !slices.Equal(to[0].Name, api.Name{"www", "a"}) || to[1].Name[0] != "less" {
		t.Error("what was handed in is changed:", names, of, to)
	}
	if m.ID != 7 || asked.ID != 7 || len(m.Questions) != 1 || len(asked.Questions) != 1 {
		t.Error("a message is changed:", m, asked)
	}
	names[1] = "b"
	checkAnswers(t, m, asked, false)
	to[0].Name[1] = "B"
	checkAnswers(t, m, asked, true)
}

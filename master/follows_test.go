package master_test

import (
	"fmt"
	"math/rand"
	"slices"
	"strings"
	"testing"

	"nomenclator/api"
	"nomenclator/master"
	"nomenclator/name"
	"nomenclator/scan"
)

// P14.4: what follows.

// goodText tells lines of which no entry is a fault.
func goodText(r *rand.Rand) []string {
	lines := []string{"o 7 HS NS ns"}
	for range r.Intn(9) {
		lines = append(lines, anyLine(r))
	}
	return lines
}

// parsed tells the records of lines, which must be good ones.
func parsed(t *testing.T, lines ...string) []api.Record {
	t.Helper()
	s := strings.Join(lines, "\n")
	l, f := master.Parse(s, api.Name{"b"})
	if f != (api.Fault{}) {
		t.Fatalf("Parse(%q) = {%d %d}", s, f.Err, f.Line)
	}
	return l
}

// dressed tells an entry's line with remarks, blanks and brackets where none of them counts.
func dressed(r *rand.Rand, line string) string {
	l, _ := scan.Entries(line)
	if len(l) == 0 {
		return pick(r, []string{"", " ", "\t;x", "; ( \" x", "()"})
	}
	gap := func(open bool) string {
		gaps := []string{" ", "  ", "\t", " \r ", "() ", "(\n)", "( ; x\n )"}
		if open {
			gaps = append(gaps, "\n", " \n\n\t", " ; \" x (\n", "\n )(")
		}
		return pick(r, gaps)
	}
	var s strings.Builder
	if l[0].Blank {
		s.WriteString(pick(r, []string{" ", "\t", "\r", "  "}))
	}
	open := r.Intn(2) == 0
	if open {
		s.WriteString(pick(r, []string{"(", "(\n", "( ;x\n\t"}))
	}
	for i, w := range l[0].Words {
		if i > 0 {
			s.WriteString(gap(open))
		}
		if w.Quoted {
			s.WriteString(`"` + w.Text + `"`)
		} else {
			s.WriteString(w.Text)
		}
	}
	if open {
		s.WriteString(pick(r, []string{")", "\n)", " ;x\n ) "}))
	}
	s.WriteString(pick(r, []string{"", " ", "\t", "\r", ";x", " ; x ) \"", " ()"}))
	return s.String()
}

func TestRemarksBlanksLinesBrackets(t *testing.T) {
	r := rand.New(rand.NewSource(17))
	for range 5000 {
		lines := goodText(r)
		want := parsed(t, lines...)
		var other []string
		for _, line := range lines {
			for range r.Intn(3) {
				other = append(other, pick(r, []string{"", " ", ";", "; x", "\t\r", "(\n)", " ;("}))
			}
			other = append(other, dressed(r, line))
		}
		if got := parsed(t, other...); !sameAll(got, want) {
			t.Fatalf("%q reads as %s, %q as %s", lines, brief(want), other, brief(got))
		}
	}
}

// whole tells a record as a line that says all, its owner and its data told whole.
func whole(t *testing.T, r api.Record) string {
	t.Helper()
	owner, _ := name.Text(r.Owner)
	data := ""
	switch r.Type {
	case api.A:
		data = fmt.Sprintf("%d.%d.%d.%d", r.Data.Raw[0], r.Data.Raw[1], r.Data.Raw[2], r.Data.Raw[3])
	case api.NS, api.CNAME:
		data, _ = name.Text(r.Data.Names[0])
	case api.MX:
		n, _ := name.Text(r.Data.Names[0])
		data = fmt.Sprint(r.Data.Nums[0], " ", n)
	case api.SRV:
		n, _ := name.Text(r.Data.Names[0])
		data = fmt.Sprint(r.Data.Nums[0], " ", r.Data.Nums[1], " ", r.Data.Nums[2], " ", n)
	case api.SOA:
		n, _ := name.Text(r.Data.Names[0])
		m, _ := name.Text(r.Data.Names[1])
		data = n + " " + m + " " + strings.Trim(fmt.Sprint(r.Data.Nums), "[]")
	case api.TXT:
		data = `"` + strings.Join(r.Data.Texts, `" "`) + `"`
	case api.CAA:
		data = fmt.Sprintf("%d %s %q", r.Data.Nums[0], r.Data.Texts[0], r.Data.Texts[1])
	case api.AAAA, 99:
		data = fmt.Sprintf(`\# %d %x`, len(r.Data.Raw), r.Data.Raw)
	default:
		t.Fatalf("the type %d", r.Type)
	}
	return fmt.Sprintf("%s %d CLASS%d TYPE%d %s", owner, r.TTL, r.Class, r.Type, data)
}

// Whatever stands ahead, and under whichever origin, a record that says all is the same.
func TestRecordsThatSayAll(t *testing.T) {
	r := rand.New(rand.NewSource(18))
	for range 3000 {
		want := parsed(t, goodText(r)...)
		var lines []string
		for _, record := range want {
			lines = append(lines, whole(t, record))
		}
		if got := parsed(t, lines...); !sameAll(got, want) {
			t.Fatalf("%q read as %s, not %s", lines, brief(got), brief(want))
		}
		for i, line := range lines {
			ahead := goodText(r)
			got := parsed(t, append(slices.Clone(ahead), line)...)
			if !same(got[len(got)-1], want[i]) {
				t.Fatalf("%q behind %q is %v, not %v", line, ahead, got[len(got)-1], want[i])
			}
			e := entryOf(t, line)
			c := anyCarry(r)
			if check := name.Check(c.Origin) == api.OK && (!c.HasOwner || name.Check(c.Owner) == api.OK); !check {
				continue
			}
			if one, err := master.Record(e, c); err != api.OK || !same(one, want[i]) {
				t.Fatalf("Record(%q, %v) = %v, %d", line, c, one, err)
			}
		}
	}
}

// $ORIGIN and the same names told whole are the same.
func TestOriginOrWholeNames(t *testing.T) {
	for _, origin := range []string{"a.", "c", "c.d.a.", ".", "@"} {
		n, _ := name.Relative(origin, api.Name{"b"})
		text, _ := name.Text(n)
		under := func(s string) string {
			if text == "." {
				return s + "."
			}
			return s + "." + text
		}
		short := "x 5 NS y\n@ MX 1 @\n A 1.2.3.4\ny.z SOA x y.z 1 2 3 4 5\n SRV 1 2 3 x.\n"
		long := under("x") + " 5 NS " + under("y") + "\n" + text + " MX 1 " + text + "\n A 1.2.3.4\n" + under("y.z") + " SOA " + under("x") + " " + under("y.z") + " 1 2 3 4 5\n SRV 1 2 3 x.\n"
		if a, b := parsed(t, "$ORIGIN "+origin, short), parsed(t, long); !sameAll(a, b) {
			t.Errorf("under %s: %s, told whole %s", origin, brief(a), brief(b))
		}
		// As the origin that is handed in.
		l, f := master.Parse(short, n)
		if f != (api.Fault{}) || !sameAll(l, parsed(t, long)) {
			t.Errorf("with the origin %s: %s, %v", origin, brief(l), f)
		}
	}
}

// Two texts one behind the other, of which the second one says all and begins with a $ORIGIN of its own, are the records of both.
func TestTwoTexts(t *testing.T) {
	r := rand.New(rand.NewSource(19))
	for range 3000 {
		one := goodText(r)
		two := []string{pick(r, []string{"$ORIGIN a.", "$origin .", "$ORIGIN c.d."})}
		for range r.Intn(5) {
			two = append(two, pick(r, []string{"x", "@", "a.b", "z."})+" "+pick(r, []string{"5 IN", "HS 1h", "0 CLASS9", "CH 7"})+" "+pick(r, datas))
			if r.Intn(4) == 0 {
				two = append(two, pick(r, []string{"$ORIGIN e", "$TTL 4", "", "; x"}))
			}
		}
		both := parsed(t, append(slices.Clone(one), two...)...)
		if want := append(parsed(t, one...), parsed(t, two...)...); !sameAll(both, want) {
			t.Fatalf("%q and %q: %s, not %s", one, two, brief(both), brief(want))
		}
	}
}

// What Parse reads of an entry is what Record reads of it, given what the entries ahead carry on.
func TestParseIsRecordByRecord(t *testing.T) {
	r := rand.New(rand.NewSource(20))
	for range 3000 {
		lines := goodText(r)
		want := parsed(t, lines...)
		l, _ := scan.Entries(strings.Join(lines, "\n"))
		c := api.Carry{Origin: api.Name{"b"}}
		for _, e := range l {
			switch first := strings.ToLower(e.Words[0].Text); {
			case !e.Blank && first == "$origin":
				c.Origin, _ = name.Relative(e.Words[1].Text, c.Origin)
				continue
			case !e.Blank && first == "$ttl":
				c.Default, _ = master.TTL(e.Words[1].Text)
				c.Said = true
				continue
			}
			one, err := master.Record(e, c)
			if err != api.OK || !same(one, want[0]) {
				t.Fatalf("Record(%v, %v) = %v, %d; Parse told %v", e, c, one, err, want[0])
			}
			want = want[1:]
			c.Owner, c.HasOwner, c.Class, c.HasClass = one.Owner, true, one.Class, true
			if _, said, _ := modelRecord(e, c); said {
				c.TTL, c.HasTTL = one.TTL, true
			}
		}
	}
}

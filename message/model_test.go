package message_test

import (
	"fmt"
	"math/rand"
	"reflect"
	"slices"
	"strings"

	"nomenclator/api"
)

// of tells the name of a text without escapes: its labels have a dot behind each.
func of(s string) api.Name {
	if s == "." {
		return nil
	}
	return strings.Split(strings.TrimSuffix(s, "."), ".")
}

func names(texts ...string) []api.Name {
	var l []api.Name
	for _, s := range texts {
		l = append(l, of(s))
	}
	return l
}

func host(s string) api.Data { return api.Data{Names: names(s)} }

func mx(n uint32, s string) api.Data { return api.Data{Nums: []uint32{n}, Names: names(s)} }

func srv(s string) api.Data { return api.Data{Nums: []uint32{1, 2, 3}, Names: names(s)} }

func soa(a, b string) api.Data {
	return api.Data{Names: names(a, b), Nums: []uint32{1, 2, 3, 4, 5}}
}

func raw(b ...byte) api.Data { return api.Data{Raw: b} }

// rec tells a record of the class IN and the TTL 60.
func rec(owner string, t api.Type, d api.Data) api.Record {
	return api.Record{Owner: of(owner), Type: t, Class: api.IN, TTL: 60, Data: d}
}

func ask(s string) api.Question {
	return api.Question{Name: of(s), Type: api.A, Class: api.IN}
}

// one is data of each type that has fields of its own, and of some that have Raw alone.
func one() map[api.Type]api.Data {
	return map[api.Type]api.Data{
		api.A: raw(1, 2, 3, 4), api.AAAA: {Raw: []byte("0123456789abcdef")}, api.NS: host("n.a."), api.CNAME: host("c.a."), api.PTR: host("p.a."), api.SOA: soa("s.a.", "t.a."), api.MX: mx(10, "m.a."), api.SRV: srv("v.a."),
		api.TXT: {Texts: []string{"a", "", "bc"}}, api.CAA: {Nums: []uint32{7}, Texts: []string{"issue", "x"}}, api.OPT: raw(0, 1, 0, 0), 99: raw(192, 12), 127: {}, 256: raw(0), 65535: raw(63),
	}
}

// alike tells whether two values are the same through and through; nil and empty lists are.
func alike(a, b any) bool { return equal(reflect.ValueOf(a), reflect.ValueOf(b)) }

func equal(a, b reflect.Value) bool {
	switch a.Kind() {
	case reflect.Slice:
		if a.Len() != b.Len() {
			return false
		}
		for i := range a.Len() {
			if !equal(a.Index(i), b.Index(i)) {
				return false
			}
		}
		return true
	case reflect.Struct:
		for i := range a.NumField() {
			if !equal(a.Field(i), b.Field(i)) {
				return false
			}
		}
		return true
	}
	return a.Interface() == b.Interface()
}

// tail is a name's tail that was written, and where.
type tail struct {
	n  api.Name
	at int
}

// long writes messages by the words of the chapters 9 and 10, the long way: what was written is looked through tail by tail.
type long struct {
	text  []byte
	tails []tail
}

func (w *long) u16(n int) { w.text = append(w.text, byte(n/256), byte(n%256)) }

func (w *long) u32(n uint32) {
	w.u16(int(n / 65536))
	w.u16(int(n % 65536))
}

func (w *long) name(n api.Name, back bool) {
	for i, l := range n {
		for _, k := range w.tails {
			if back && k.at < 16384 && slices.Equal(k.n, n[i:]) {
				w.u16(192*256 + k.at)
				return
			}
		}
		w.tails = append(w.tails, tail{n[i:], len(w.text)})
		w.text = append(append(w.text, byte(len(l))), l...)
	}
	w.text = append(w.text, 0)
}

func (w *long) data(t api.Type, d api.Data) {
	switch t {
	case 2, 5, 12:
		w.name(d.Names[0], true)
	case 6:
		w.name(d.Names[0], true)
		w.name(d.Names[1], true)
		for _, n := range d.Nums {
			w.u32(n)
		}
	case 15, 33:
		for _, n := range d.Nums {
			w.u16(int(n))
		}
		w.name(d.Names[0], t == 15)
	case 16:
		for _, s := range d.Texts {
			w.text = append(append(w.text, byte(len(s))), s...)
		}
	case 257:
		w.text = append(w.text, byte(d.Nums[0]), byte(len(d.Texts[0])))
		w.text = append(append(w.text, d.Texts[0]...), d.Texts[1]...)
	default:
		w.text = append(w.text, d.Raw...)
	}
}

// told tells the bytes of a message that may be written, however many they are, with its first so many records alone.
func told(m api.Message, records int) []byte {
	w := &long{}
	a := min(records, len(m.Answer))
	b := min(records-a, len(m.Authority))
	c := min(records-a-b, len(m.Additional))
	bit := func(on bool, weight int) int {
		if on {
			return weight
		}
		return 0
	}
	w.u16(int(m.ID))
	w.text = append(w.text, byte(bit(m.Response, 128)+8*m.Opcode+bit(m.AA, 4)+bit(m.TC, 2)+bit(m.RD, 1)), byte(bit(m.RA, 128)+bit(m.AD, 32)+bit(m.CD, 16)+m.Rcode))
	for _, n := range []int{len(m.Questions), a, b, c} {
		w.u16(n)
	}
	for _, q := range m.Questions {
		w.name(q.Name, true)
		w.u16(int(q.Type))
		w.u16(int(q.Class))
	}
	for _, r := range slices.Concat(m.Answer[:a], m.Authority[:b], m.Additional[:c]) {
		w.name(r.Owner, true)
		w.u16(int(r.Type))
		w.u16(int(r.Class))
		w.u32(r.TTL)
		at := len(w.text)
		w.u16(0)
		w.data(r.Type, r.Data)
		size := len(w.text) - at - 2
		w.text[at], w.text[at+1] = byte(size/256), byte(size%256)
	}
	return w.text
}

func all(m api.Message) int { return len(m.Answer) + len(m.Authority) + len(m.Additional) }

// no is what the long way of reading throws.
var no = fmt.Errorf("no message")

// ear reads messages by the words of the chapters 5, 8, 9 and 10, with nothing of the program.
type ear struct {
	b  []byte
	at int
}

func must(ok bool) {
	if !ok {
		panic(no)
	}
}

func (r *ear) take(n int) []byte {
	must(n <= len(r.b)-r.at)
	r.at += n
	return r.b[r.at-n : r.at]
}

func (r *ear) num(size int) int {
	n := 0
	for _, c := range r.take(size) {
		n = n*256 + int(c)
	}
	return n
}

// labels tells the labels from a place of a stretch on, and the place behind.
func (r *ear) labels(at, stretch int, back bool) (api.Name, int) {
	must(at < len(r.b))
	switch c := int(r.b[at]); {
	case c == 0:
		return nil, at + 1
	case c < 64:
		must(at+1+c <= len(r.b))
		rest, next := r.labels(at+1+c, stretch, back)
		return append(api.Name{string(r.b[at+1 : at+1+c])}, rest...), next
	case c >= 192 && back:
		must(at+1 < len(r.b))
		place := (c-192)*256 + int(r.b[at+1])
		must(place < stretch)
		rest, _ := r.labels(place, place, back)
		return rest, at + 2
	}
	panic(no)
}

func (r *ear) name(back bool) api.Name {
	n, next := r.labels(r.at, r.at, back)
	size := 1
	for _, l := range n {
		size += len(l) + 1
	}
	must(size <= 255)
	r.at = next
	return n
}

// data reads data that have so many bytes.
func (r *ear) data(t, size int) api.Data {
	must(size <= len(r.b)-r.at && t != 0 && (t < 128 || t > 255))
	end := r.at + size
	var d api.Data
	switch t {
	case 1, 28:
		must(size == map[int]int{1: 4, 28: 16}[t])
		d.Raw = r.take(size)
	case 2, 5, 12:
		d.Names = []api.Name{r.name(true)}
	case 6:
		d.Names = []api.Name{r.name(true), r.name(true)}
		for range 5 {
			d.Nums = append(d.Nums, uint32(r.num(4)))
		}
	case 15, 33:
		for range map[int]int{15: 1, 33: 3}[t] {
			d.Nums = append(d.Nums, uint32(r.num(2)))
		}
		d.Names = []api.Name{r.name(t == 15)}
	case 16:
		must(size > 0)
		for r.at < end {
			d.Texts = append(d.Texts, string(r.take(r.num(1))))
		}
	case 257:
		d.Nums = []uint32{uint32(r.num(1))}
		tag := string(r.take(r.num(1)))
		must(len(tag) >= 1 && len(tag) <= 15 && r.at <= end)
		for _, c := range []byte(tag) {
			must(c >= 'a' && c <= 'z' || c >= 'A' && c <= 'Z' || c >= '0' && c <= '9')
		}
		d.Texts = []string{tag, string(r.take(end - r.at))}
	default:
		d.Raw = r.take(size)
	}
	must(r.at == end)
	return d
}

// heard tells the message that bytes are, if they are one's.
func heard(b []byte) (m api.Message, ok bool) {
	defer func() {
		if e := recover(); e != nil && e != no {
			panic(e)
		} else if e == no {
			m, ok = api.Message{}, false
		}
	}()
	r := &ear{b: b}
	m.ID = uint16(r.num(2))
	f, g := r.num(1), r.num(1)
	m.Response, m.Opcode, m.AA, m.TC, m.RD = f/128 == 1, f/8%16, f/4%2 == 1, f/2%2 == 1, f%2 == 1
	m.RA, m.AD, m.CD, m.Rcode = g/128 == 1, g/32%2 == 1, g/16%2 == 1, g%16
	counts := []int{r.num(2), r.num(2), r.num(2), r.num(2)}
	must(g/64%2 == 0 && counts[0] <= 16 && counts[1]+counts[2]+counts[3] <= 512)
	for range counts[0] {
		n := r.name(true)
		m.Questions = append(m.Questions, api.Question{Name: n, Type: api.Type(r.num(2)), Class: api.Class(r.num(2))})
	}
	for i, l := range []*[]api.Record{&m.Answer, &m.Authority, &m.Additional} {
		for range counts[1+i] {
			k := api.Record{Owner: r.name(true)}
			k.Type = api.Type(r.num(2))
			k.Class = api.Class(r.num(2))
			k.TTL = uint32(r.num(4))
			k.Data = r.data(int(k.Type), r.num(2))
			*l = append(*l, k)
		}
	}
	must(r.at == len(b))
	return m, true
}

// someName tells a name of few labels that come again and again, at times a long one.
func someName(r *rand.Rand) api.Name {
	labels := []string{"a", "b", "A", "www", "\x00", "\xc0\x0c", "a.b", strings.Repeat("x", 63)}
	var n api.Name
	for range r.Intn(5) {
		n = append(n, labels[r.Intn(len(labels)-r.Intn(2))])
	}
	if size := len(strings.Join(n, ".")) + 2; size > 255 {
		return n[:1]
	}
	return n
}

// someData tells data of a type that may be.
func someData(r *rand.Rand, t api.Type) api.Data {
	text := func(most int) string { return strings.Repeat(string([]byte{byte(r.Intn(256))}), r.Intn(most+1)) }
	num := func() uint32 { return uint32(r.Intn(65536)) }
	switch t {
	case api.A:
		return raw(1, 2, 3, byte(r.Intn(256)))
	case api.AAAA:
		return api.Data{Raw: []byte("0123456789abcdef")}
	case api.NS, api.CNAME, api.PTR:
		return api.Data{Names: []api.Name{someName(r)}}
	case api.SOA:
		return api.Data{Names: []api.Name{someName(r), someName(r)}, Nums: []uint32{r.Uint32(), num(), 0, r.Uint32(), num()}}
	case api.MX:
		return api.Data{Names: []api.Name{someName(r)}, Nums: []uint32{num()}}
	case api.SRV:
		return api.Data{Names: []api.Name{someName(r)}, Nums: []uint32{num(), num(), num()}}
	case api.TXT:
		return api.Data{Texts: append([]string{text(255)}, slices.Repeat([]string{text(3)}, r.Intn(4))...)}
	case api.CAA:
		return api.Data{Nums: []uint32{num() % 256}, Texts: []string{"Tag09"[r.Intn(5):], text(300)}}
	}
	return api.Data{Raw: []byte(text(20))}
}

var types = []api.Type{api.A, api.NS, api.CNAME, api.SOA, api.PTR, api.MX, api.TXT, api.AAAA, api.SRV, api.OPT, api.CAA, 99, 127, 256, 65535}

// some tells a message that may be written, of at most so many questions and records in each list.
func some(r *rand.Rand, questions, records int) api.Message {
	flip := func() bool { return r.Intn(2) == 0 }
	m := api.Message{ID: uint16(r.Intn(65536)), Response: flip(), Opcode: r.Intn(16), AA: flip(), TC: flip(), RD: flip(), RA: flip(), AD: flip(), CD: flip(), Rcode: r.Intn(16)}
	for range r.Intn(questions + 1) {
		m.Questions = append(m.Questions, api.Question{Name: someName(r), Type: api.Type(r.Intn(65536)), Class: api.Class(r.Intn(65536))})
	}
	for _, l := range []*[]api.Record{&m.Answer, &m.Authority, &m.Additional} {
		for range r.Intn(records + 1) {
			t := types[r.Intn(len(types))]
			*l = append(*l, api.Record{Owner: someName(r), Type: t, Class: api.Class(r.Intn(65536)), TTL: r.Uint32(), Data: someData(r, t)})
		}
	}
	return m
}

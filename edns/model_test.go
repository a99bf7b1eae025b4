package edns_test

import (
	"fmt"
	"math/rand"
	"reflect"
	"slices"
	"strings"
	"testing"

	"nomenclator/api"
)

func raw(b ...byte) api.Data { return api.Data{Raw: b} }

// opt tells the record of the type OPT and the root that has this Size, TTL and data.
func opt(size api.Class, ttl uint32, b ...byte) api.Record {
	return api.Record{Type: api.OPT, Class: size, TTL: ttl, Data: raw(b...)}
}

// other tells a record that says nothing and is of a type of its own.
func other(label string) api.Record {
	return api.Record{Owner: api.Name{label, "a"}, Type: api.A, Class: api.IN, TTL: 60, Data: raw(1, 2, 3, 4)}
}

// choice tells an option of so many bytes.
func choice(code uint16, size int) api.Option {
	return api.Option{Code: code, Data: slices.Repeat([]byte{byte(code)}, size)}
}

// edgesOfRaw are bytes that are options, and such as are none, with what they are.
var edgesOfRaw = []struct {
	b    []byte
	ok   bool
	want []api.Option
}{
	{nil, true, nil},
	{[]byte{}, true, nil},
	{[]byte{0}, false, nil},
	{[]byte{0, 10}, false, nil},
	{[]byte{0, 10, 0}, false, nil},
	{[]byte{0, 10, 0, 0}, true, []api.Option{{Code: 10}}},
	{[]byte{0, 10, 0, 0, 0}, false, nil},
	{[]byte{0, 10, 0, 0, 0, 0, 0, 0}, true, []api.Option{{Code: 10}, {}}},
	{[]byte{0, 10, 0, 1}, false, nil},
	{[]byte{0, 10, 0, 1, 7}, true, []api.Option{{Code: 10, Data: []byte{7}}}},
	{[]byte{0, 10, 0, 1, 7, 8}, false, nil},
	{[]byte{0, 10, 0, 2, 7}, false, nil},
	{[]byte{0, 10, 0, 2, 1, 2}, true, []api.Option{{Code: 10, Data: []byte{1, 2}}}},
	{[]byte{0, 10, 0, 3, 1, 2}, false, nil},
	{[]byte{0, 10, 1, 2, 1, 2}, false, nil},
	{[]byte{1, 2, 0, 1, 3, 255, 254, 0, 0, 1, 2, 0, 2, 0, 1}, true, []api.Option{{Code: 258, Data: []byte{3}}, {Code: 65534}, {Code: 258, Data: []byte{0, 1}}}},
	{[]byte{1, 2, 0, 1, 3, 255, 254, 0, 0, 1, 2, 0, 3, 0, 1}, false, nil},
	{[]byte{1, 2, 0, 1, 3, 255, 254, 0, 1}, false, nil},
	{[]byte{1, 2, 0, 1, 3, 255, 254, 0}, false, nil},
	{[]byte{1, 2, 0, 1, 3, 255, 254}, false, nil},
	{[]byte{1, 2, 0, 1, 3, 255}, false, nil},
	{[]byte{0, 0, 255, 255}, false, nil},
}

// may tells whether something may be said, and its TTL and options' bytes, by the chapter's words alone.
func may(e api.Edns) (ttl uint64, b []byte, ok bool) {
	if e.Size < 0 || e.Size > 65535 || e.High < 0 || e.High > 255 || e.Version < 0 || e.Version > 255 {
		return 0, nil, false
	}
	ttl = uint64(e.High)*16777216 + uint64(e.Version)*65536
	if e.DO {
		ttl += 32768
	}
	for _, o := range e.Options {
		if len(o.Data) > 65535 {
			return 0, nil, false
		}
		b = append(b, byte(o.Code/256), byte(o.Code%256), byte(len(o.Data)/256), byte(len(o.Data)%256))
		b = append(b, o.Data...)
	}
	return ttl, b, len(b) <= 65535
}

// said tells what a record says, by the chapter's words alone: bytes are cut option by option.
func said(r api.Record) (api.Edns, bool) {
	if len(r.Owner) > 0 || r.Type != 41 || len(r.Data.Names)+len(r.Data.Nums)+len(r.Data.Texts) > 0 || len(r.Data.Raw) > 65535 {
		return api.Edns{}, false
	}
	bits := fmt.Sprintf("%032b", r.TTL)
	e := api.Edns{Size: int(r.Class), DO: bits[16] == '1'}
	fmt.Sscanf(bits[:8]+" "+bits[8:16]+" "+bits[17:], "%b %b", &e.High, &e.Version)
	if bits[17:] != "000000000000000" {
		return api.Edns{}, false
	}
	for b := r.Data.Raw; len(b) > 0; {
		if len(b) < 4 || len(b)-4 < int(b[2])*256+int(b[3]) {
			return api.Edns{}, false
		}
		end := 4 + int(b[2])*256 + int(b[3])
		e.Options = append(e.Options, api.Option{Code: uint16(b[0])*256 + uint16(b[1]), Data: b[4:end]})
		b = b[end:]
	}
	return e, true
}

// someEdns tells something that may be said.
func someEdns(r *rand.Rand) api.Edns {
	e := api.Edns{Size: r.Intn(65536), High: r.Intn(256), Version: r.Intn(256), DO: r.Intn(2) == 0}
	for range r.Intn(4) {
		o := api.Option{Code: uint16(r.Intn(65536)), Data: make([]byte, r.Intn(20)*r.Intn(20))}
		r.Read(o.Data)
		e.Options = append(e.Options, o)
	}
	return e
}

// someRecord tells a record that says something, at times one that is spoilt by a little.
func someRecord(r *rand.Rand) api.Record {
	e := someEdns(r)
	ttl, b, _ := may(e)
	x := opt(api.Class(e.Size), uint32(ttl), b...)
	switch r.Intn(12) {
	case 0:
		x.Owner = api.Name{"a"}
	case 1:
		x.Type = api.Type(r.Intn(65536))
	case 2:
		x.TTL |= 1 << r.Intn(15)
	case 3:
		x.Data.Names = make([]api.Name, 1)
	case 4:
		x.Data.Nums = make([]uint32, 1)
	case 5:
		x.Data.Texts = make([]string, 1)
	case 6:
		x.Data.Raw = append(x.Data.Raw, 0)
	case 7:
		x.Data.Raw = x.Data.Raw[:r.Intn(len(b)+1)]
	case 8:
		if len(b) > 0 {
			x.Data.Raw[r.Intn(min(len(b), 4))]++
		}
	}
	return x
}

// someMessage tells a message, whose additional records are of the type OPT at times; it may be written, but for its records' data.
func someMessage(r *rand.Rand) api.Message {
	m := api.Message{ID: uint16(r.Intn(65536)), Response: r.Intn(2) == 0, Opcode: r.Intn(16), AA: r.Intn(2) == 0, TC: r.Intn(2) == 0, RD: r.Intn(2) == 0, RA: r.Intn(2) == 0, AD: r.Intn(2) == 0, CD: r.Intn(2) == 0, Rcode: r.Intn(16)}
	for range r.Intn(3) {
		m.Questions = append(m.Questions, api.Question{Name: api.Name{"q", "a"}, Type: api.A, Class: api.IN})
	}
	for i, l := range []*[]api.Record{&m.Answer, &m.Authority, &m.Additional} {
		for range r.Intn(4) {
			if r.Intn(3+i) == 0 {
				*l = append(*l, someRecord(r))
			} else {
				*l = append(*l, other(fmt.Sprint("n", r.Intn(10))))
			}
		}
	}
	return m
}

// opts tells a message's additional records of the type OPT, and the others.
func opts(m api.Message) (in, out []api.Record) {
	for _, x := range m.Additional {
		if x.Type == 41 {
			in = append(in, x)
		} else {
			out = append(out, x)
		}
	}
	return in, out
}

// alike tells whether two values are the same through and through; nil and empty lists are.
func alike(a, b any) bool { return equal(reflect.ValueOf(a), reflect.ValueOf(b)) }

func equal(a, b reflect.Value) bool {
	switch a.Kind() {
	case reflect.Slice:
		if a.Len() != b.Len() {
			return false
		}
		for i := range a.Len() {
			if !equal(a.Index(i), b.Index(i)) {
				return false
			}
		}
		return true
	case reflect.Struct:
		for i := range a.NumField() {
			if !equal(a.Field(i), b.Field(i)) {
				return false
			}
		}
		return true
	}
	return a.Interface() == b.Interface()
}

// brief tells a value as a short text: of a list its length, and its first items.
func brief(v any) string { return short(reflect.ValueOf(v)) }

func short(v reflect.Value) string {
	var l []string
	switch v.Kind() {
	case reflect.Struct:
		for i := range v.NumField() {
			l = append(l, v.Type().Field(i).Name+":"+short(v.Field(i)))
		}
		return "{" + strings.Join(l, " ") + "}"
	case reflect.Slice:
		for i := range min(v.Len(), 8) {
			l = append(l, short(v.Index(i)))
		}
		return fmt.Sprint(v.Len(), "[", strings.Join(l, " "), "]")
	}
	return fmt.Sprint(v)
}

func TestTheModel(t *testing.T) {
	e, ok := said(opt(1, 0x12348000, 0, 10, 0, 1, 7))
	if want := (api.Edns{Size: 1, High: 18, Version: 52, DO: true, Options: []api.Option{{Code: 10, Data: []byte{7}}}}); !ok || !alike(e, want) {
		t.Errorf("said = %v, %v", e, ok)
	}
	if _, ok := said(opt(1, 1<<14)); ok {
		t.Error("the TTL 16384 says something")
	}
}

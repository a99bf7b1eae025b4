package message

import (
	"slices"

	"nomenclator/api"
	"nomenclator/header"
	"nomenclator/name"
	"nomenclator/octet"
	"nomenclator/rdata"
	"nomenclator/squeeze"
)

// headSize is how many bytes a head has.
const headSize = 12

// refusal is thrown where bytes turn out to be no message's.
type refusal struct{}

// reader stands at a place of some bytes. What it can't read it throws a refusal for, so its methods answer what is there alone.
type reader struct {
	all []byte
	at  int
}

// Read reads a message. A panic that is no refusal would be a fault of the program, not of the bytes: it goes on.
func Read(b []byte) (m api.Message, e api.Errno) {
	defer func() {
		switch thrown := recover().(type) {
		case nil:
		case refusal:
			m, e = api.Message{}, api.ErrBytes
		default:
			panic(thrown)
		}
	}()
	r := &reader{all: b}
	return r.message(), api.OK
}

// need throws a refusal, unless something is so.
func need(so bool) {
	if !so {
		panic(refusal{})
	}
}

func (r *reader) message() api.Message {
	m, counts := r.head()
	for range counts[0] {
		m.Questions = append(m.Questions, r.question())
	}
	for i, list := range sections(&m) {
		for range counts[1+i] {
			*list = append(*list, r.record())
		}
	}
	need(r.at == len(r.all))
	return m
}

func (r *reader) head() (api.Message, [4]int) {
	m, counts, e := header.Read(r.all)
	need(e == api.OK)
	need(counts[0] <= maxQuestions && counts[1]+counts[2]+counts[3] <= api.MaxRecords)
	r.at = headSize
	return m, counts
}

func (r *reader) question() api.Question {
	n := r.name()
	t, c := r.kind()
	return api.Question{Name: n, Type: t, Class: c}
}

func (r *reader) record() api.Record {
	owner := r.name()
	t, c := r.kind()
	ttl := r.u32()
	return api.Record{Owner: owner, Type: t, Class: c, TTL: ttl, Data: r.data(t, r.u16())}
}

// kind reads a type and a class.
func (r *reader) kind() (api.Type, api.Class) {
	t := r.u16()
	c := r.u16()
	return api.Type(t), api.Class(c)
}

// data reads data that have so many bytes there.
func (r *reader) data(t api.Type, size int) api.Data {
	need(size <= len(r.all)-r.at)
	end := r.at + size
	plain := r.all[r.at:end]
	if rdata.Squeezed(t) {
		plain = r.unsqueezed(t, end)
	}
	d, e := rdata.Read(t, plain)
	need(e == api.OK)
	r.at = end
	return d
}

// unsqueezed tells the bytes that data up to a place would have, if no name in them pointed back.
func (r *reader) unsqueezed(t api.Type, end int) []byte {
	ahead, count := namesIn(t)
	need(ahead <= end-r.at)
	plain := slices.Clone(r.all[r.at : r.at+ahead])
	r.at += ahead
	for range count {
		whole, _ := name.Bytes(r.name())
		plain = append(plain, whole...)
	}
	// A name is read over all bytes: its last one may lie behind the data's end.
	need(r.at <= end)
	return append(plain, r.all[r.at:end]...)
}

func (r *reader) name() api.Name {
	n, next, e := squeeze.Read(r.all, r.at, true)
	need(e == api.OK)
	r.at = next
	return n
}

func (r *reader) u16() int {
	n, ok := octet.U16(r.all, r.at)
	need(ok)
	r.at += 2
	return n
}

func (r *reader) u32() uint32 {
	n, ok := octet.U32(r.all, r.at)
	need(ok)
	r.at += 4
	return n
}

package message

import (
	"nomenclator/api"
	"nomenclator/header"
	"nomenclator/name"
	"nomenclator/octet"
	"nomenclator/rdata"
	"nomenclator/squeeze"
)

// writer writes what Check took, as long as there is room: behind the first error it writes nothing, so it is asked once, at the end.
type writer struct {
	to  *squeeze.Writer
	err api.Errno
}

// write tells the bytes of a message that Check took, if they are not too many.
func write(m api.Message) ([]byte, api.Errno) {
	head, e := header.Bytes(m, counts(m))
	w := &writer{to: squeeze.New(), err: e}
	w.bytes(head)
	for _, q := range m.Questions {
		w.question(q)
	}
	for _, list := range sections(&m) {
		for _, r := range *list {
			w.record(r)
		}
	}
	if w.err != api.OK {
		return nil, w.err
	}
	return w.to.All(), api.OK
}

// counts tells what a message's head counts.
func counts(m api.Message) [4]int {
	n := [4]int{len(m.Questions)}
	for i, list := range sections(&m) {
		n[1+i] = len(*list)
	}
	return n
}

func (w *writer) question(q api.Question) {
	w.name(q.Name, true)
	w.u16(int(q.Type))
	w.u16(int(q.Class))
}

// record writes how many bytes the data have over two that keep the place, for which names point back is told by writing them.
func (w *writer) record(r api.Record) {
	w.name(r.Owner, true)
	w.u16(int(r.Type))
	w.u16(int(r.Class))
	w.bytes(octet.Put32(r.TTL))
	length := w.to.Len()
	w.u16(0)
	start := w.to.Len()
	w.data(r.Type, r.Data)
	w.set(length, w.to.Len()-start)
}

// data writes data as rdata does, but for their names. Those that may not point back are handed on as names, too: others may point to them.
func (w *writer) data(t api.Type, d api.Data) {
	if w.err != api.OK {
		return
	}
	plain, _ := rdata.Bytes(t, d)
	at, _ := namesIn(t)
	w.bytes(plain[:at])
	for _, n := range d.Names {
		w.name(n, rdata.Squeezed(t))
		at += name.Size(n)
	}
	w.bytes(plain[at:])
}

func (w *writer) u16(n int) {
	two, _ := octet.Put16(n)
	w.bytes(two)
}

func (w *writer) name(n api.Name, back bool) {
	if w.err == api.OK {
		w.err = w.to.Name(n, back)
	}
}

func (w *writer) bytes(b []byte) {
	if w.err == api.OK {
		w.err = w.to.Bytes(b)
	}
}

func (w *writer) set(at, n int) {
	if w.err == api.OK {
		w.err = w.to.Set(at, n)
	}
}

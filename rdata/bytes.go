package rdata

import (
	"nomenclator/api"
	"nomenclator/name"
	"nomenclator/octet"
)

// nowhere is a place to which no reader goes: it goes bad instead.
const nowhere = -1

// write tells the bytes of data that may be.
func (f fields) write(d api.Data) []byte {
	b := make([]byte, 0, f.size(d))
	b = putNames(b, d.Names[:f.front])
	b = putNums(b, d.Nums, f.width)
	b = putNames(b, d.Names[f.front:])
	b = putTexts(b, d.Texts, f.tails)
	return append(b, d.Raw...)
}

func putNames(b []byte, l []api.Name) []byte {
	for _, n := range l {
		own, _ := name.Bytes(n)
		b = append(b, own...)
	}
	return b
}

func putNums(b []byte, l []uint32, width int) []byte {
	for _, n := range l {
		four := octet.Put32(n)
		b = append(b, four[len(four)-width:]...)
	}
	return b
}

// putTexts writes texts, the last ones, tails of them, without their lengths.
func putTexts(b []byte, l []string, tails int) []byte {
	for i, s := range l {
		if i < len(l)-tails {
			b = append(b, byte(len(s)))
		}
		b = append(b, s...)
	}
	return b
}

// read reads data, and tells whether they were there and were all. A reader that goes bad answers zero values from then on, so it is asked once, at the end.
func (f fields) read(b []byte) (api.Data, bool) {
	r := octet.New(b)
	front := takeNames(r, b, f.front)
	nums := takeNums(r, f.nums, f.width)
	behind := takeNames(r, b, f.names-f.front)
	d := api.Data{Names: append(front, behind...), Nums: nums, Texts: f.takeTexts(r)}
	if f.raw != 0 {
		d.Raw = r.Take(r.Left())
	}
	return d, r.Left() == 0 && !r.Bad()
}

// takeNames reads names at the reader's place in b, for name.Read asks for all bytes, and a place.
func takeNames(r *octet.Reader, b []byte, count int) []api.Name {
	var l []api.Name
	for range count {
		n, next, err := name.Read(b, r.At())
		if err != api.OK {
			next = nowhere
		}
		r.Jump(next)
		l = append(l, n)
	}
	return l
}

func takeNums(r *octet.Reader, count, width int) []uint32 {
	var l []uint32
	for range count {
		l = append(l, takeNum(r, width))
	}
	return l
}

func takeNum(r *octet.Reader, width int) uint32 {
	switch width {
	case 1:
		return uint32(r.Byte())
	case 2:
		return uint32(r.U16())
	}
	return r.U32()
}

// takeTexts reads those texts that have a length ahead, then those that go on to the end.
func (f fields) takeTexts(r *octet.Reader) []string {
	var l []string
	for len(l) < f.texts-f.tails || f.texts == some && r.Left() > 0 {
		l = append(l, string(r.Take(r.Byte())))
	}
	for len(l) < f.texts {
		l = append(l, string(r.Take(r.Left())))
	}
	return l
}

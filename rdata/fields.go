package rdata

import (
	"strings"

	"nomenclator/api"
	"nomenclator/name"
)

// Counts that are no number of things.
const (
	some  = -1 // one or more
	every = -2 // as many as there are
)

// The bounds of texts, and what a tag is made of.
const (
	maxText = 255
	maxTag  = 15
	tagged  = "abcdefghijklmnopqrstuvwxyzABCDEFGHIJKLMNOPQRSTUVWXYZ0123456789"
)

// fields is how many things data of a type have in each field. The bytes stand in this order: the names in front, the numbers, the other names, the texts, Raw.
type fields struct {
	names int
	front int // how many of the names stand ahead of the numbers
	nums  int
	width int // how many bytes a number has
	texts int
	tags  int // how many of the texts, from the first on, are of letters and digits
	tails int // how many of the texts, the last ones, have no length ahead
	raw   int
}

// fieldsOf tells a type's fields.
func fieldsOf(t api.Type) fields {
	switch t {
	case api.A:
		return fields{raw: 4}
	case api.AAAA:
		return fields{raw: 16}
	case api.NS, api.CNAME, api.PTR:
		return fields{names: 1}
	case api.SOA:
		return fields{names: 2, front: 2, nums: 5, width: 4}
	case api.MX:
		return fields{nums: 1, width: 2, names: 1}
	case api.SRV:
		return fields{nums: 3, width: 2, names: 1}
	case api.TXT:
		return fields{texts: some}
	case api.CAA:
		return fields{nums: 1, width: 1, texts: 2, tags: 1, tails: 1}
	}
	return fields{raw: every}
}

// counted tells whether data have as many things in each field as they should.
func (f fields) counted(d api.Data) bool {
	return fits(len(d.Names), f.names) && fits(len(d.Nums), f.nums) && fits(len(d.Texts), f.texts) && fits(len(d.Raw), f.raw)
}

// fits tells whether so many things are as many as a count says.
func fits(have, count int) bool {
	switch count {
	case some:
		return have > 0
	case every:
		return true
	}
	return have == count
}

// within tells whether the numbers and the texts of data that are counted are within their bounds.
func (f fields) within(d api.Data) bool {
	for _, n := range d.Nums {
		if n>>(8*f.width) != 0 {
			return false
		}
	}
	for _, s := range d.Texts[:f.tags] {
		if !isTag(s) {
			return false
		}
	}
	for _, s := range d.Texts[:len(d.Texts)-f.tails] {
		if len(s) > maxText {
			return false
		}
	}
	return true
}

// isTag tells whether a text is one to maxTag letters and digits.
func isTag(s string) bool {
	if len(s) == 0 || len(s) > maxTag {
		return false
	}
	for i := range len(s) {
		if strings.IndexByte(tagged, s[i]) < 0 {
			return false
		}
	}
	return true
}

// size tells how many bytes data have.
func (f fields) size(d api.Data) int {
	size := f.width*len(d.Nums) + len(d.Raw) - f.tails
	for _, n := range d.Names {
		size += name.Size(n)
	}
	for _, s := range d.Texts {
		size += 1 + len(s)
	}
	return size
}

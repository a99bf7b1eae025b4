package rtext

import (
	"strconv"
	"strings"

	"nomenclator/api"
	"nomenclator/name"
	"nomenclator/octet"
	"nomenclator/rdata"
)

// read reads words as data of a type, and tells whether they are such. The mark in front says for all types how the words behind it are read, also where they could be texts or names.
func read(t api.Type, words []api.Term, origin api.Name) (api.Data, bool) {
	if len(words) > 0 && words[0] == (api.Term{Text: hash}) {
		return readHashed(t, words[1:])
	}
	r := reader{words: words, origin: origin}
	r.read(t)
	return r.data, !r.bad && len(r.words) == 0
}

// readHashed reads the words behind the mark: how many bytes there are, and their digits.
func readHashed(t api.Type, words []api.Term) (api.Data, bool) {
	if len(words) == 0 {
		return api.Data{}, false
	}
	var digits strings.Builder
	for _, w := range words[1:] {
		digits.WriteString(w.Text)
	}
	n, isNumber := number(words[0].Text, 32)
	b, e := octet.Unhex(digits.String())
	if !isNumber || e != api.OK || uint64(n) != uint64(len(b)) {
		return api.Data{}, false
	}
	d, e := rdata.Read(t, b)
	return d, e == api.OK
}

// reader takes words one by one, and puts what they say into data. It is bad from the first word on that is missing or wrong, so it is asked once, at the end.
type reader struct {
	words  []api.Term
	origin api.Name
	data   api.Data
	bad    bool
}

// read takes a type's words.
func (r *reader) read(t api.Type) {
	switch t {
	case api.A, api.AAAA:
		r.takeAddress()
	case api.NS, api.CNAME, api.PTR:
		r.takeNames(1)
	case api.SOA:
		r.takeNames(2)
		r.takeNumbers(5)
	case api.MX:
		r.takeNumbers(1)
		r.takeNames(1)
	case api.SRV:
		r.takeNumbers(3)
		r.takeNames(1)
	case api.TXT:
		r.takeTexts(max(1, len(r.words)))
	case api.CAA:
		r.takeNumbers(1)
		r.takeTag()
		r.takeTexts(1)
	default:
		r.bad = true
	}
}

// next takes the word in front, whether it is quoted or not.
func (r *reader) next() string {
	if len(r.words) == 0 {
		r.bad = true
		return ""
	}
	w := r.words[0]
	r.words = r.words[1:]
	return w.Text
}

// bare takes the word in front, which must not be quoted.
func (r *reader) bare() string {
	if len(r.words) > 0 && r.words[0].Quoted {
		r.bad = true
	}
	return r.next()
}

func (r *reader) takeAddress() {
	b, e := ParseAddress(r.bare())
	r.bad = r.bad || e != api.OK
	r.data.Raw = b
}

func (r *reader) takeNames(count int) {
	for range count {
		n, e := name.Relative(r.bare(), r.origin)
		r.bad = r.bad || e != api.OK
		r.data.Names = append(r.data.Names, n)
	}
}

func (r *reader) takeNumbers(count int) {
	for range count {
		n, isNumber := number(r.bare(), 32)
		r.bad = r.bad || !isNumber
		r.data.Nums = append(r.data.Nums, n)
	}
}

func (r *reader) takeTexts(count int) {
	for range count {
		s, e := String(r.next())
		r.bad = r.bad || e != api.OK
		r.data.Texts = append(r.data.Texts, s)
	}
}

// takeTag takes a text as it stands: its bytes need no escapes, and none are read.
func (r *reader) takeTag() { r.data.Texts = append(r.data.Texts, r.next()) }

// number reads decimal digits, of a number of at most so many bits. strconv takes noughts ahead, too.
func number(s string, bits int) (uint32, bool) {
	if len(s) > 1 && s[0] == '0' {
		return 0, false
	}
	n, err := strconv.ParseUint(s, 10, bits)
	return uint32(n), err == nil
}

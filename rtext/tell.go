package rtext

import (
	"strconv"

	"nomenclator/api"
	"nomenclator/name"
	"nomenclator/octet"
)

// hash is the word ahead of data that are told by their bytes alone.
const hash = `\#`

// tell tells the words of data that may be.
func tell(t api.Type, d api.Data) []string {
	switch t {
	case api.A, api.AAAA:
		return []string{addressText(d.Raw)}
	case api.NS, api.CNAME, api.PTR:
		return nameTexts(d.Names)
	case api.SOA:
		return append(nameTexts(d.Names), numberTexts(d.Nums)...)
	case api.MX, api.SRV:
		return append(numberTexts(d.Nums), nameTexts(d.Names)...)
	case api.TXT:
		return quotedTexts(d.Texts)
	case api.CAA:
		return append(numberTexts(d.Nums), d.Texts[0], Quote(d.Texts[1]))
	default:
		return hashed(d.Raw)
	}
}

// nameTexts tells the texts of names that may be.
func nameTexts(names []api.Name) []string {
	var words []string
	for _, n := range names {
		text, _ := name.Text(n)
		words = append(words, text)
	}
	return words
}

// numberTexts tells numbers' digits.
func numberTexts(nums []uint32) []string {
	var words []string
	for _, n := range nums {
		words = append(words, strconv.FormatUint(uint64(n), 10))
	}
	return words
}

// quotedTexts tells texts in quotes.
func quotedTexts(texts []string) []string {
	var words []string
	for _, s := range texts {
		words = append(words, Quote(s))
	}
	return words
}

// hashed tells the words of bytes that have no form of their own.
func hashed(b []byte) []string {
	words := []string{hash, strconv.Itoa(len(b))}
	if len(b) > 0 {
		words = append(words, octet.Hex(b))
	}
	return words
}

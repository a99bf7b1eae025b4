package header

import (
	"slices"

	"nomenclator/api"
)

// Answers tells whether a message may be an answer to another one.
func Answers(m, to api.Message) bool {
	return m.Response && !to.Response && m.ID == to.ID && m.Opcode == to.Opcode && slices.EqualFunc(m.Questions, to.Questions, sameQuestion)
}

func sameQuestion(a, b api.Question) bool {
	return a.Type == b.Type && a.Class == b.Class && slices.EqualFunc(a.Name, b.Name, sameLabel)
}

// sameLabel takes labels of any kind: this layer does not stand on that of labels, and a reply must not be told apart by whether its labels may be.
func sameLabel(a, b string) bool {
	if len(a) != len(b) {
		return false
	}
	for i := range len(a) {
		if fold(a[i]) != fold(b[i]) {
			return false
		}
	}
	return true
}

// fold makes a great letter small. Bytes are folded, not runes: strings.EqualFold would hold letters to be the same that are not.
func fold(c byte) byte {
	if 'A' <= c && c <= 'Z' {
		return c - 'A' + 'a'
	}
	return c
}

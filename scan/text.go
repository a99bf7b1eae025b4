package scan

import (
	"slices"
	"strings"

	"nomenclator/api"
)

// quote stands at both ends of a word in quotes.
const quote = `"`

// eachWord tells whether something holds of all words of all entries.
func eachWord(l []api.Entry, holds func(api.Term) bool) bool {
	for _, e := range l {
		for _, w := range e.Words {
			if !holds(w) {
				return false
			}
		}
	}
	return true
}

// isShort tells whether a word alone is no longer than a text may be.
func isShort(w api.Term) bool { return wordSize(w) <= api.MaxText }

// couldStand tells whether a word that is short is read again as it is.
func couldStand(w api.Term) bool {
	l, fault := Entries(wordText(w))
	return fault.Err == api.OK && len(l) == 1 && len(l[0].Words) == 1 && l[0].Words[0] == w
}

func eachHasWords(l []api.Entry) bool {
	return !slices.ContainsFunc(l, func(e api.Entry) bool { return len(e.Words) == 0 })
}

func hasTooManyWords(l []api.Entry) bool {
	return slices.ContainsFunc(l, func(e api.Entry) bool { return len(e.Words) > api.MaxWords })
}

// textIsShort tells whether the text of entries is no longer than it may be. It is reckoned ahead of writing, so that no long one is written.
func textIsShort(l []api.Entry) bool {
	size := 0
	for _, e := range l {
		size += entrySize(e)
		if size > api.MaxText {
			return false
		}
	}
	return true
}

// entrySize tells how many bytes the text of an entry has: behind each word stands one, a blank or a byte 10.
func entrySize(e api.Entry) int {
	size := len(e.Words)
	if e.Blank {
		size++
	}
	for _, w := range e.Words {
		size += wordSize(w)
	}
	return size
}

func wordSize(w api.Term) int {
	if w.Quoted {
		return len(w.Text) + 2*len(quote)
	}
	return len(w.Text)
}

// wordText tells a word as it stands in a text.
func wordText(w api.Term) string {
	if w.Quoted {
		return quote + w.Text + quote
	}
	return w.Text
}

// writeEntry writes an entry's text.
func writeEntry(text *strings.Builder, e api.Entry) {
	if e.Blank {
		text.WriteByte(' ')
	}
	for i, w := range e.Words {
		if i > 0 {
			text.WriteByte(' ')
		}
		text.WriteString(wordText(w))
	}
	text.WriteByte('\n')
}

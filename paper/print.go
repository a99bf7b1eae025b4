package paper

import (
	"slices"
	"strconv"
	"strings"

	"nomenclator/api"
	"nomenclator/code"
	"nomenclator/name"
	"nomenclator/rtext"
)

const (
	originWord = "$ORIGIN"
	atSign     = "@" // the origin's text
	dot        = "." // what ends a label's text
	blank      = " "
	lineEnd    = "\n"
)

const (
	anyClass     api.Class = 255
	anyClassWord           = "CLASS255"
)

// putAll puts the text of records that may be printed behind what stands there, and tells whether it is short enough. It goes no further once it is too long: all records together may have far more bytes than a text.
func putAll(t *strings.Builder, origin api.Name, l []api.Record) bool {
	put(t, originWord, blank, text(origin), lineEnd)
	asAhead := repeats()
	for _, r := range l {
		sameOwner, sameClass := asAhead(r)
		owner := ""
		if !sameOwner {
			owner = short(r.Owner, origin)
		}
		putLine(t, owner, r, !sameClass)
		if t.Len() > api.MaxText {
			return false
		}
	}
	return true
}

// putLine puts a record's line, its owner told so. An owner of no bytes leaves the blank behind it, by which the owner ahead is taken over.
func putLine(t *strings.Builder, owner string, r api.Record, withClass bool) {
	put(t, owner, blank, strconv.FormatUint(uint64(r.TTL), 10), blank)
	if withClass {
		put(t, classWord(r.Class), blank)
	}
	data, _ := rtext.Text(r.Type, r.Data)
	put(t, code.Type(r.Type), blank, data, lineEnd)
}

// put puts pieces behind one another.
func put(t *strings.Builder, pieces ...string) {
	for _, s := range pieces {
		t.WriteString(s)
	}
}

// repeats tells by what each record, handed to it in order, is asked whether its owner and its class are those of the record ahead. Ahead of the first one stands none, but what says no class is IN there.
func repeats() func(r api.Record) (owner, class bool) {
	ahead, isFirst := api.Record{Class: api.IN}, true
	return func(r api.Record) (owner, class bool) {
		owner = !isFirst && slices.Equal(r.Owner, ahead.Owner)
		class = r.Class == ahead.Class
		ahead, isFirst = r, false
		return owner, class
	}
}

// short tells the short text of a name that may be, beside an origin that may be. Under the root nothing is shorter than the whole: without its last dot it would be another origin's.
func short(n, origin api.Name) string {
	ahead := len(n) - len(origin)
	switch {
	case ahead < 0 || !slices.Equal(n[ahead:], origin):
		return text(n)
	case ahead == 0:
		return atSign
	case len(origin) == 0:
		return text(n)
	}
	return strings.TrimSuffix(text(n[:ahead]), dot)
}

// text tells the text of a name that may be.
func text(n api.Name) string {
	s, _ := name.Text(n)
	return s
}

// classWord tells a class's word. The one that is a type's, too, would be read as the type's ahead of a type.
func classWord(c api.Class) string {
	if c == anyClass {
		return anyClassWord
	}
	return code.Class(c)
}

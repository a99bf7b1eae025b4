package master

import (
	"strings"

	"nomenclator/api"
	"nomenclator/label"
	"nomenclator/name"
)

// mark begins all words that are looked for among the commands; no owner begins so.
const mark = "$"

// command changes what is carried on by what the command's second word says.
type command func(word string, c api.Carry) (api.Carry, api.Errno)

// commands are found by their first words, folded.
func commands() map[string]command {
	return map[string]command{
		"$origin": sayOrigin,
		"$ttl":    sayDefault,
	}
}

// opening tells an entry's first word, if it could be a command's; else nothing, which is none's.
func opening(e api.Entry) string {
	if e.Blank || len(e.Words) == 0 || e.Words[0].Quoted {
		return ""
	}
	return e.Words[0].Text
}

// commandWord tells by which word an entry's command would be found.
func commandWord(e api.Entry) string { return label.Fold(opening(e)) }

// isMarked tells whether an entry is a command, or begins as only commands do.
func isMarked(e api.Entry) bool { return strings.HasPrefix(opening(e), mark) }

// obey does a command, given the words behind its first one.
func obey(do command, words []api.Term, c api.Carry) (api.Carry, api.Errno) {
	if len(words) != 1 || words[0].Quoted {
		return c, api.ErrEntry
	}
	return do(words[0].Text, c)
}

func sayOrigin(word string, c api.Carry) (api.Carry, api.Errno) {
	origin, err := name.Relative(word, c.Origin)
	c.Origin = origin
	return c, err
}

func sayDefault(word string, c api.Carry) (api.Carry, api.Errno) {
	n, err := TTL(word)
	c.Default, c.Said = n, true
	return c, err
}

package master

import (
	"nomenclator/api"
	"nomenclator/code"
	"nomenclator/name"
	"nomenclator/rtext"
)

// lastOfSOA is the place of a SOA's fifth number.
const lastOfSOA = 4

// read reads an entry's record, and tells what is carried on behind it. The names that are carried on to it may be.
func read(e api.Entry, c api.Carry) (api.Record, api.Carry, api.Errno) {
	if len(e.Words) == 0 || isMarked(e) {
		return api.Record{}, c, api.ErrEntry
	}
	owner, words, err := takeOwner(e, c)
	if err != api.OK {
		return api.Record{}, c, err
	}
	own, words, err := takeSayings(words)
	if err != api.OK {
		return api.Record{}, c, err
	}
	data, err := rtext.Parse(own.kind, words, c.Origin)
	if err != api.OK {
		return api.Record{}, c, err
	}
	ttl, c, err := own.chooseTTL(data, c)
	if err != api.OK {
		return api.Record{}, c, err
	}
	class := own.chooseClass(c)
	c.Owner, c.HasOwner = owner, true
	c.Class, c.HasClass = class, true
	return api.Record{Owner: owner, Type: own.kind, Class: class, TTL: ttl, Data: data}, c, api.OK
}

// takeOwner tells an entry's owner, and the words behind it. One that is taken over is copied: each record has its own.
func takeOwner(e api.Entry, c api.Carry) (api.Name, []api.Term, api.Errno) {
	switch {
	case e.Blank && !c.HasOwner:
		return nil, nil, api.ErrMissing
	case e.Blank:
		return name.Copy(c.Owner), e.Words, api.OK
	case e.Words[0].Quoted:
		return nil, nil, api.ErrEntry
	}
	owner, err := name.Relative(e.Words[0].Text, c.Origin)
	return owner, e.Words[1:], err
}

// sayings are what an entry says itself between its owner and its data.
type sayings struct {
	kind     api.Type
	class    api.Class
	ttl      uint32
	hasKind  bool
	hasClass bool
	hasTTL   bool
}

// takeSayings takes words up to the type's, and tells those behind it.
func takeSayings(words []api.Term) (sayings, []api.Term, api.Errno) {
	var own sayings
	for i, w := range words {
		if err := own.take(w); err != api.OK {
			return sayings{}, nil, err
		}
		if own.hasKind {
			return own, words[i+1:], api.OK
		}
	}
	return sayings{}, nil, api.ErrEntry
}

// take takes the next word, whatever it may be.
func (own *sayings) take(w api.Term) (err api.Errno) {
	switch {
	case w.Quoted, own.hasTTL && isTTL(w.Text), own.hasClass && isClass(w.Text):
		err = api.ErrEntry
	case isTTL(w.Text):
		own.hasTTL = true
		own.ttl, err = TTL(w.Text)
	case isClass(w.Text):
		own.hasClass = true
		own.class, err = code.ParseClass(w.Text)
	default:
		own.hasKind = true
		own.kind, err = storedType(w.Text)
	}
	return err
}

// isTTL tells whether a word must be a number of seconds.
func isTTL(word string) bool { return word != "" && '0' <= word[0] && word[0] <= '9' }

// isClass tells whether a word is a class's. One that is a type's too is the type's: where it stands a type may stand.
func isClass(word string) bool {
	_, noClass := code.ParseClass(word)
	_, noType := code.ParseType(word)
	return noClass == api.OK && noType != api.OK
}

// storedType reads the word of a type of which records may stand in a zone.
func storedType(word string) (api.Type, api.Errno) {
	t, err := code.ParseType(word)
	if err == api.OK && !code.Stored(t) {
		err = api.ErrType
	}
	return t, err
}

// chooseClass tells the class that an entry says, or else that which is carried on.
func (own sayings) chooseClass(c api.Carry) api.Class {
	switch {
	case own.hasClass:
		return own.class
	case c.HasClass:
		return c.Class
	}
	return api.IN
}

// chooseTTL tells the TTL that an entry says, or else that which is carried on to it; and what is carried on behind it: only what it said itself.
func (own sayings) chooseTTL(d api.Data, c api.Carry) (uint32, api.Carry, api.Errno) {
	switch {
	case own.hasTTL:
		c.TTL, c.HasTTL = own.ttl, true
		return own.ttl, c, api.OK
	case c.Said:
		return c.Default, c, api.OK
	case c.HasTTL:
		return c.TTL, c, api.OK
	case own.kind == api.SOA && fits(uint64(d.Nums[lastOfSOA])):
		c.TTL, c.HasTTL = d.Nums[lastOfSOA], true
		return c.TTL, c, api.OK
	}
	return 0, c, api.ErrMissing
}

package fit

import (
	"slices"

	"nomenclator/api"
	"nomenclator/name"
)

// follower tells a function that is handed a list's records, one after the other, and tells of each whether it is of the same set as the one ahead.
func follower() func(api.Record) bool {
	var ahead *api.Record
	return func(r api.Record) bool {
		same := ahead != nil && together(*ahead, r)
		ahead = &r
		return same
	}
}

// together tells whether records that stand beside one another are of one set.
func together(a, b api.Record) bool {
	return a.Type == b.Type && a.Class == b.Class && name.Same(a.Owner, b.Owner)
}

// first tells a message with its first so many records alone, and the saying one, which is not counted. They lie in the memory of the message that was handed in.
func first(m api.Message, records int) api.Message {
	m.TC = m.TC || records < len(m.Answer)+len(m.Authority)
	for _, list := range [2]*[]api.Record{&m.Answer, &m.Authority} {
		keep := min(records, len(*list))
		*list = (*list)[:keep]
		records -= keep
	}
	m.Additional = firstBeside(m.Additional, records)
	return m
}

// firstBeside tells the first so many additional records, and the saying one at its place among them.
func firstBeside(l []api.Record, records int) []api.Record {
	at := saying(l)
	switch {
	case at < 0:
		return l[:records]
	case at <= records:
		return l[:records+1]
	}
	return slices.Concat(l[:records], l[at:at+1])
}

// withoutSaying tells additional records without the saying one: those ahead of it and behind it stand beside one another then.
func withoutSaying(l []api.Record) []api.Record {
	at := saying(l)
	if at < 0 {
		return l
	}
	return slices.Concat(l[:at], l[at+1:])
}

// saying tells the place of the saying record among additional ones, -1 if there is none.
func saying(l []api.Record) int { return slices.IndexFunc(l, isOPT) }

func isOPT(r api.Record) bool { return r.Type == api.OPT }

package rrset

import (
	"cmp"
	"maps"
	"slices"
	"strings"

	"nomenclator/api"
	"nomenclator/name"
)

// Same tells whether two sets are the same.
func Same(a, b api.Set) bool { return a.TTL == b.TTL && SameData(a, b) }

// SameData tells whether they are, but for the TTL. Data that may not be are the same as none, so a set that has some is the same as none.
func SameData(a, b api.Set) bool {
	if a.Type != b.Type || a.Class != b.Class || !name.Same(a.Owner, b.Owner) {
		return false
	}
	one, e := contentOf(a.Type, a.Data)
	if e != api.OK {
		return false
	}
	other, e := contentOf(b.Type, b.Data)
	return e == api.OK && maps.Equal(one, other)
}

// Find tells the set of an owner and a type.
func Find(l []api.Set, n api.Name, t api.Type) (api.Set, bool) {
	for _, s := range l {
		if s.Type == t && s.Class == api.IN && name.Same(s.Owner, n) {
			return Copy(s), true
		}
	}
	return api.Set{}, false
}

// Sort tells sets in order.
func Sort(l []api.Set) []api.Set {
	var sorted []api.Set
	for _, s := range l {
		sorted = append(sorted, Copy(s))
	}
	slices.SortStableFunc(sorted, compare)
	return sorted
}

func compare(a, b api.Set) int {
	return cmp.Or(name.Compare(a.Owner, b.Owner), cmp.Compare(a.Type, b.Type), cmp.Compare(a.Class, b.Class))
}

// ranked is data, and by what they stand in their order.
type ranked struct {
	text string
	data api.Data
}

// Canon tells a set with its data in order. Their bytes are told once for all the comparing.
func Canon(s api.Set) api.Set {
	c := Copy(s)
	l := make([]ranked, 0, len(c.Data))
	for _, d := range c.Data {
		text, e := folded(c.Type, d)
		if e != api.OK {
			return c
		}
		l = append(l, ranked{text: text, data: d})
	}
	slices.SortStableFunc(l, func(a, b ranked) int { return strings.Compare(a.text, b.text) })
	for i, r := range l {
		c.Data[i] = r.data
	}
	return c
}

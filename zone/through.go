package zone

import (
	"iter"
	"slices"

	"nomenclator/api"
	"nomenclator/name"
)

// sets goes over all sets of a zone, as they stand.
func sets(z api.Zone) iter.Seq[api.Set] { return slices.Values(z.Sets) }

// where goes over those of which something holds.
func where(z api.Zone, holds func(api.Set) bool) iter.Seq[api.Set] {
	return func(yield func(api.Set) bool) {
		for s := range sets(z) {
			if holds(s) && !yield(s) {
				return
			}
		}
	}
}

// owned goes over the sets whose owner is a name.
func owned(z api.Zone, n api.Name) iter.Seq[api.Set] {
	return where(z, func(s api.Set) bool { return name.Same(s.Owner, n) })
}

// below goes over the sets whose owner is at or under a name.
func below(z api.Zone, n api.Name) iter.Seq[api.Set] {
	return where(z, func(s api.Set) bool { return name.Under(s.Owner, n) })
}

// typed goes over the sets of a type.
func typed(z api.Zone, t api.Type) iter.Seq[api.Set] {
	return where(z, func(s api.Set) bool { return s.Type == t })
}

// others goes over all sets but those of an owner, a type and a class.
func others(z api.Zone, n api.Name, t api.Type, c api.Class) iter.Seq[api.Set] {
	return where(z, func(s api.Set) bool {
		return s.Type != t || s.Class != c || !name.Same(s.Owner, n)
	})
}

// cuts goes over the names of all cuts, as the sets stand.
func cuts(z api.Zone) iter.Seq[api.Name] {
	return func(yield func(api.Name) bool) {
		for s := range typed(z, api.NS) {
			if isUnder(s.Owner, z.Origin) && !yield(s.Owner) {
				return
			}
		}
	}
}

// hidden goes over the sets beyond a cut of a zone whose sets rise: what is under a cut stands right behind what is at it. Only an A set stands at a cut ahead of its NS set; it is left out.
func hidden(z api.Zone) iter.Seq[api.Set] {
	return func(yield func(api.Set) bool) {
		var cut api.Name
		for s := range sets(z) {
			switch {
			case len(cut) > 0 && name.Under(s.Owner, cut):
				if !yield(s) {
					return
				}
			case s.Type == api.NS && isUnder(s.Owner, z.Origin):
				cut = s.Owner
			}
		}
	}
}

// pairs goes over each two that stand beside one another.
func pairs[T any](l []T) iter.Seq2[T, T] {
	return func(yield func(T, T) bool) {
		for i := 1; i < len(l); i++ {
			if !yield(l[i-1], l[i]) {
				return
			}
		}
	}
}

// isUnder tells whether a name is under another one, and not the same.
func isUnder(n, top api.Name) bool { return len(n) > len(top) && name.Under(n, top) }

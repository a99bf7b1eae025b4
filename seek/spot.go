package seek

import (
	"nomenclator/api"
	"nomenclator/name"
	"nomenclator/zone"
)

// check tells whether a name may be looked for in a zone.
func check(z api.Zone, n api.Name) api.Errno {
	if e := zone.Check(z); e != api.OK {
		return e
	}
	if e := name.Check(n); e != api.OK {
		return e
	}
	if !name.Under(n, z.Origin) {
		return api.ErrArg
	}
	return api.OK
}

// spot tells where a name is that may be looked for.
func spot(z api.Zone, n api.Name) api.Spot {
	cut, beyond := zone.Cut(z, n)
	above := closest(z, n)
	star, wild := starOf(z, above)
	switch {
	case beyond:
		return api.Spot{Kind: api.Beyond, Node: cut}
	case owns(z, n):
		return api.Spot{Kind: api.Exact, Node: name.Copy(n), Closest: above}
	case len(above) == len(n):
		return api.Spot{Kind: api.Empty, Closest: above}
	case wild:
		return api.Spot{Kind: api.Wild, Node: star, Closest: above}
	}
	return api.Spot{Kind: api.None, Closest: above}
}

// closest tells the closest name as it stands in the name, in memory of its own. The loop ends at the origin at the latest, which is there.
func closest(z api.Zone, n api.Name) api.Name {
	above := n
up:
	for len(above) > len(z.Origin) {
		if zone.Has(z, above) {
			break up
		}
		above = above[1:]
	}
	return name.Copy(above)
}

// starOf tells the star of a name, if it is there. Where it would be too long it is no name, and so is not there.
func starOf(z api.Zone, n api.Name) (api.Name, bool) {
	star, e := name.Wild(n)
	return star, e == api.OK && zone.Has(z, star)
}

// owns tells whether some set's owner is a name.
func owns(z api.Zone, n api.Name) bool { return len(zone.At(z, n)) > 0 }

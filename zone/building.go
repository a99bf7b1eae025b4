package zone

import (
	"slices"

	"nomenclator/api"
	"nomenclator/name"
	"nomenclator/rrset"
)

// building is a zone that is being built, and the first error that was met: behind it nothing is done any more. The zone may lie in memory that was handed in, so its lists are never written to.
type building struct {
	zone api.Zone
	err  api.Errno
}

// check asks all that must hold of a zone: what is asked first is told first.
func (b *building) check() {
	b.pass(checkOrigin)
	b.must(isShort, api.ErrLong)
	b.pass(checkSets)
	b.must(rises, api.ErrOrder)
	b.must(isServed, api.ErrClass)
	b.must(isInside, api.ErrOutside)
	b.must(hasSOA, api.ErrSOA)
	b.must(hasApex, api.ErrApex)
	b.must(leavesAliasesAlone, api.ErrAlias)
	b.must(cutsNoStar, api.ErrStar)
	b.must(hidesAddressesAlone, api.ErrOccluded)
}

// pass keeps the error of something that tells one.
func (b *building) pass(check func(api.Zone) api.Errno) {
	if b.err == api.OK {
		b.err = check(b.zone)
	}
}

// must keeps an error, if what must hold does not.
func (b *building) must(holds func(api.Zone) bool, e api.Errno) {
	if b.err == api.OK && !holds(b.zone) {
		b.err = e
	}
}

// gather takes records as the zone's sets.
func (b *building) gather(l []api.Record) {
	made, e := rrset.Of(l)
	for i, s := range made {
		made[i] = rrset.Canon(s)
	}
	b.zone.Sets, b.err = rrset.Sort(made), e
}

// put puts a set in the place of the one of its owner, type and class, or among the others.
func (b *building) put(s api.Set) {
	if b.err != api.OK {
		return
	}
	rest := slices.Collect(others(b.zone, s.Owner, s.Type, s.Class))
	b.zone.Sets = rrset.Sort(append(rest, rrset.Canon(s)))
}

// drop takes a set away.
func (b *building) drop(n api.Name, t api.Type) {
	if b.err != api.OK {
		return
	}
	rest := slices.Collect(others(b.zone, n, t, api.IN))
	if len(rest) == len(b.zone.Sets) {
		b.err = api.ErrMissing
	}
	b.zone.Sets = rest
}

// tell tells the zone in memory of its own.
func (b *building) tell() (api.Zone, api.Errno) {
	if b.err != api.OK {
		return api.Zone{}, b.err
	}
	z := api.Zone{Origin: name.Copy(b.zone.Origin)}
	for s := range sets(b.zone) {
		z.Sets = append(z.Sets, rrset.Copy(s))
	}
	return z, api.OK
}

// records tells the zone's records, which may be, as its sets may.
func (b *building) records() ([]api.Record, api.Errno) {
	if b.err != api.OK {
		return nil, b.err
	}
	var l []api.Record
	for s := range sets(b.zone) {
		r, _ := rrset.Records(s)
		l = append(l, r...)
	}
	return l, api.OK
}

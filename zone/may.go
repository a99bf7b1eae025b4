package zone

import (
	"cmp"

	"nomenclator/api"
	"nomenclator/name"
	"nomenclator/rdata"
	"nomenclator/rrset"
)

// star is the first label of names at which no zone is cut off.
const star = "*"

// What must hold of a zone. Each of these may lean on those ahead of it: it is asked of no zone of which one of them does not hold.

func checkOrigin(z api.Zone) api.Errno { return name.Check(z.Origin) }

func isShort(z api.Zone) bool {
	count := 0
	for s := range sets(z) {
		count += len(s.Data)
	}
	return count <= api.MaxZone
}

func checkSets(z api.Zone) api.Errno {
	for s := range sets(z) {
		if e := rrset.Check(s); e != api.OK {
			return e
		}
	}
	return api.OK
}

// rises tells whether the sets and their data rise. Classes count for nothing: two sets of one owner and type are one too many.
func rises(z api.Zone) bool {
	for a, b := range pairs(z.Sets) {
		if cmp.Or(name.Compare(a.Owner, b.Owner), cmp.Compare(a.Type, b.Type)) >= 0 {
			return false
		}
	}
	for s := range sets(z) {
		for a, b := range pairs(s.Data) {
			if rdata.Compare(s.Type, a, b) >= 0 {
				return false
			}
		}
	}
	return true
}

func isServed(z api.Zone) bool {
	for s := range sets(z) {
		if s.Class != api.IN || s.Type == 0 || s.Type == api.OPT || s.Type == api.ANY {
			return false
		}
	}
	return true
}

func isInside(z api.Zone) bool {
	for s := range sets(z) {
		if !name.Under(s.Owner, z.Origin) {
			return false
		}
	}
	return true
}

func hasSOA(z api.Zone) bool {
	count := 0
	for s := range typed(z, api.SOA) {
		if !name.Same(s.Owner, z.Origin) || len(s.Data) != 1 {
			return false
		}
		count++
	}
	return count == 1
}

func hasApex(z api.Zone) bool {
	for s := range typed(z, api.NS) {
		if name.Same(s.Owner, z.Origin) {
			return true
		}
	}
	return false
}

// leavesAliasesAlone tells whether each CNAME set has one datum, is not at the origin, and has its owner for itself: sets of one owner stand together.
func leavesAliasesAlone(z api.Zone) bool {
	for s := range typed(z, api.CNAME) {
		if len(s.Data) != 1 || name.Same(s.Owner, z.Origin) {
			return false
		}
	}
	for a, b := range pairs(z.Sets) {
		if (a.Type == api.CNAME || b.Type == api.CNAME) && name.Same(a.Owner, b.Owner) {
			return false
		}
	}
	return true
}

func cutsNoStar(z api.Zone) bool {
	for s := range typed(z, api.NS) {
		if len(s.Owner) > 0 && s.Owner[0] == star {
			return false
		}
	}
	return true
}

func hidesAddressesAlone(z api.Zone) bool {
	for s := range hidden(z) {
		if s.Type != api.A && s.Type != api.AAAA {
			return false
		}
	}
	return true
}

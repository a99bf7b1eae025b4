package squeeze

import (
	"nomenclator/api"
	"nomenclator/name"
	"nomenclator/octet"
)

// Read reads a name at a place.
func Read(b []byte, at int, back bool) (api.Name, int, api.Errno) {
	if at < 0 || at > len(b) {
		return nil, 0, api.ErrArg
	}
	var n api.Name
	start, behind, ended := at, 0, false
reading:
	for at < len(b) {
		first := int(b[at])
		switch {
		case first == 0:
			ended = true
			break reading
		case first <= api.MaxLabel:
			next := at + 1 + first
			if next > len(b) {
				break reading
			}
			n = append(n, string(b[at+1:next]))
			// Asked label by label, so that the reading goes no further than the longest name may.
			if name.Check(n) != api.OK {
				break reading
			}
			at = next
		case back:
			place, ok := pointed(b, at)
			if !ok || place >= start {
				break reading
			}
			if behind == 0 {
				behind = at + 2
			}
			at, start = place, place
		default:
			break reading
		}
	}
	if !ended {
		return nil, 0, api.ErrBytes
	}
	if behind == 0 {
		behind = at + 1
	}
	return n, behind, api.OK
}

// pointed tells the place to which the pointer at a place points, if one stands there.
func pointed(b []byte, at int) (int, bool) {
	two, ok := octet.U16(b, at)
	if !ok || two < mark {
		return 0, false
	}
	return two - mark, true
}

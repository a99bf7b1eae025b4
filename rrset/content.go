package rrset

import (
	"nomenclator/api"
	"nomenclator/rdata"
)

// content is which data there are of a type, by their folded bytes: so each is held against all others at once, and not against one after the other.
type content map[string]struct{}

// add adds data, and tells whether they were not there, or rdata.Check's error.
func (c content) add(t api.Type, d api.Data) (bool, api.Errno) {
	text, e := folded(t, d)
	if e != api.OK {
		return false, e
	}
	_, there := c[text]
	c[text] = struct{}{}
	return !there, api.OK
}

// contentOf tells the content of any data, or the first one's error that has one.
func contentOf(t api.Type, l []api.Data) (content, api.Errno) {
	there := content{}
	for _, d := range l {
		if _, e := there.add(t, d); e != api.OK {
			return nil, e
		}
	}
	return there, api.OK
}

// folded tells the bytes of folded data as a text: data are the same, and stand in order, as these do. Folding leaves all lengths as they were, so the error is that of the data as they are.
func folded(t api.Type, d api.Data) (string, api.Errno) {
	b, e := rdata.Bytes(t, rdata.Fold(t, d))
	return string(b), e
}

package edns

import (
	"math"

	"nomenclator/api"
	"nomenclator/octet"
)

// What a TTL is made of: the unit of High, that of Version, the bit of DO. Of the bits below nothing is said.
const (
	highUnit    = 1 << 24
	versionUnit = 1 << 16
	doBit       = 1 << 15
)

// optionHead is how many bytes an option has ahead of its own: its code, their count.
const optionHead = 4

// Record tells the record of what is said.
func Record(e api.Edns) (api.Record, api.Errno) {
	if !maySay(e) {
		return api.Record{}, api.ErrArg
	}
	return api.Record{Type: api.OPT, Class: api.Class(e.Size), TTL: ttl(e), Data: api.Data{Raw: written(e.Options)}}, api.OK
}

// Read reads what a record says.
func Read(r api.Record) (api.Edns, api.Errno) {
	if !inForm(r) {
		return api.Edns{}, api.ErrBytes
	}
	options, ok := read(r.Data.Raw)
	if !ok {
		return api.Edns{}, api.ErrBytes
	}
	return api.Edns{
		Size:    int(r.Class),
		High:    int(r.TTL / highUnit),
		Version: int(r.TTL % highUnit / versionUnit),
		DO:      r.TTL&doBit != 0,
		Options: options,
	}, api.OK
}

// maySay tells whether e may be said.
func maySay(e api.Edns) bool {
	return upTo(e.Size, math.MaxUint16) && upTo(e.High, math.MaxUint8) && upTo(e.Version, math.MaxUint8) && fit(e.Options)
}

func upTo(n, most int) bool { return 0 <= n && n <= most }

// fit tells whether options are short enough to be data, each with its head. An option that is too long alone is among those that are not.
func fit(l []api.Option) bool {
	left := api.MaxData
	for _, o := range l {
		left -= optionHead + len(o.Data)
		if left < 0 {
			return false
		}
	}
	return true
}

// inForm tells whether a record is one that says something, but for its options.
func inForm(r api.Record) bool {
	d := r.Data
	return isOPT(r) && len(r.Owner) == 0 && r.TTL%doBit == 0 &&
		len(d.Names) == 0 && len(d.Nums) == 0 && len(d.Texts) == 0 && len(d.Raw) <= api.MaxData
}

func ttl(e api.Edns) uint32 {
	n := uint32(e.High)*highUnit + uint32(e.Version)*versionUnit
	if e.DO {
		n += doBit
	}
	return n
}

// written tells the bytes of options that fit.
func written(l []api.Option) []byte {
	var pieces [][]byte
	for _, o := range l {
		code, _ := octet.Put16(int(o.Code))
		size, _ := octet.Put16(len(o.Data))
		pieces = append(pieces, code, size, o.Data)
	}
	return octet.Join(pieces)
}

// read tells the options that bytes are, if they are some. The reader that goes bad has nothing left: so the loop ends, and what it took for an option last is dropped with all others.
func read(b []byte) ([]api.Option, bool) {
	var l []api.Option
	r := octet.New(b)
	for r.Left() > 0 {
		code := r.U16()
		l = append(l, api.Option{Code: uint16(code), Data: r.Take(r.U16())})
	}
	if r.Bad() {
		return nil, false
	}
	return l, true
}

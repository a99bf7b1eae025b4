package name

import (
	"nomenclator/api"
	"nomenclator/octet"
)

// Bytes tells a name's bytes.
func Bytes(n api.Name) ([]byte, api.Errno) {
	if e := Check(n); e != api.OK {
		return nil, e
	}
	b := make([]byte, 0, Size(n))
	for _, l := range n {
		b = append(b, byte(len(l)))
		b = append(b, l...)
	}
	return append(b, 0), api.OK
}

// Read reads a name's bytes. The reader is given no more of them than a name may have, for it copies what it is given.
func Read(b []byte, at int) (api.Name, int, api.Errno) {
	if at < 0 || at >= len(b) {
		return nil, 0, api.ErrArg
	}
	left := b[at:]
	r := octet.New(left[:min(len(left), api.MaxName)])
	var n api.Name
	for size := r.Byte(); size > 0; size = r.Byte() {
		n = append(n, string(r.Take(size)))
	}
	if r.Bad() || Check(n) != api.OK {
		return nil, 0, api.ErrBytes
	}
	return n, at + r.At(), api.OK
}

package octet

import "bytes"

// Reader stands at a place of some bytes.
type Reader struct {
	self *Reader // what New answered: neither a Reader that New did not make, nor a copy of one, points at itself
	text []byte
	at   int
	bad  bool
}

// start is where a move begins.
type start uint8

const (
	here  start = iota // where the reader stands
	front              // at the place 0
)

// view is what a reader shows behind a move: the bytes that it went over, its place, how many bytes are left, whether it is bad.
type view struct {
	over []byte
	at   int
	left int
	bad  bool
}

// New makes a reader.
func New(b []byte) *Reader {
	r := &Reader{text: bytes.Clone(b)}
	r.self = r
	return r
}

// Byte reads a byte.
func (r *Reader) Byte() int { return int(number(r.move(here, 1).over)) }

// U16 reads a number in two bytes.
func (r *Reader) U16() int { return int(number(r.move(here, 2).over)) }

// U32 reads a number in four bytes.
func (r *Reader) U32() uint32 { return number(r.move(here, 4).over) }

// Take reads some bytes.
func (r *Reader) Take(n int) []byte { return bytes.Clone(r.move(here, n).over) }

// Jump goes to a place.
func (r *Reader) Jump(at int) { r.move(front, at) }

// At tells the place.
func (r *Reader) At() int { return r.move(here, 0).at }

// Left tells how many bytes are left.
func (r *Reader) Left() int { return r.move(here, 0).left }

// Bad tells whether it is bad.
func (r *Reader) Bad() bool { return r.move(here, 0).bad }

// move goes over n bytes from a start on. All methods end here, so that what is no reader, and what is bad, is told apart in one place.
func (r *Reader) move(from start, n int) view {
	if r == nil || r.self != r || r.bad {
		return view{bad: true}
	}
	at := r.at
	if from == front {
		at = 0
	}
	over, ok := piece(r.text, at, n)
	if !ok {
		// A bad reader is never good again: it needs its bytes no more.
		*r = Reader{self: r, bad: true}
		return view{bad: true}
	}
	r.at = at + n
	return view{over: over, at: r.at, left: len(r.text) - r.at}
}

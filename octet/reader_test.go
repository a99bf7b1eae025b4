package octet_test

import (
	"bytes"
	"math"
	"testing"

	"nomenclator/octet"
)

// stands tells whether a good reader has a place and so many bytes left.
func stands(r *octet.Reader, at, left int) bool {
	return r.At() == at && r.Left() == left && !r.Bad()
}

// isBad tells whether every call of a reader answers nothing, whatever was called ahead of it.
func isBad(r *octet.Reader) bool {
	for range 2 {
		if r.Byte() != 0 || r.U16() != 0 || r.U32() != 0 || r.Take(0) != nil || r.Take(1) != nil || r.Take(-1) != nil || r.At() != 0 || r.Left() != 0 || !r.Bad() {
			return false
		}
		r.Jump(0)
		r.Jump(1)
		r.Jump(-1)
	}
	return true
}

// P1.3: New, and what a good reader reads.

func TestNewReader(t *testing.T) {
	for _, b := range [][]byte{nil, {}, {1}, {1, 2, 3}, make([]byte, 65536)} {
		if r := octet.New(b); r == nil || !stands(r, 0, len(b)) {
			t.Error(len(b))
		}
	}
}

func TestReads(t *testing.T) {
	r := octet.New([]byte{255, 1, 2, 254, 1, 2, 3, 7, 8, 9})
	if r.Byte() != 255 || !stands(r, 1, 9) {
		t.Error("Byte")
	}
	if r.U16() != 258 || !stands(r, 3, 7) {
		t.Error("U16")
	}
	if r.U32() != 4261478915 || !stands(r, 7, 3) {
		t.Error("U32")
	}
	if b := r.Take(2); string(b) != "\x07\x08" || !stands(r, 9, 1) {
		t.Error("Take", b)
	}
	if b := r.Take(0); len(b) != 0 || !stands(r, 9, 1) {
		t.Error("Take none", b)
	}
	if b := r.Take(1); string(b) != "\x09" || !stands(r, 10, 0) {
		t.Error("Take the last", b)
	}
	if b := r.Take(0); len(b) != 0 || !stands(r, 10, 0) {
		t.Error("Take none at the end", b)
	}
	if r.Byte() != 0 || !isBad(r) {
		t.Error("past the end")
	}
}

func TestExampleOfReads(t *testing.T) {
	r := octet.New([]byte{1, 2, 3})
	if r.U16() != 258 || r.Left() != 1 || r.Byte() != 3 || r.Byte() != 0 || !r.Bad() || r.At() != 0 {
		t.Error("example")
	}
}

func TestReadsUpToTheEnd(t *testing.T) {
	b := []byte{0, 0, 0, 1}
	for size, read := range map[int]func(r *octet.Reader) bool{
		1: func(r *octet.Reader) bool { return r.Byte() == 1 },
		2: func(r *octet.Reader) bool { return r.U16() == 1 },
		3: func(r *octet.Reader) bool { return string(r.Take(3)) == "\x00\x00\x01" },
		4: func(r *octet.Reader) bool { return r.U32() == 1 },
	} {
		whole := octet.New(b[4-size:])
		if !read(whole) || !stands(whole, size, 0) {
			t.Error(size, "whole")
		}
		short := octet.New(b[5-size:])
		if read(short) || !isBad(short) {
			t.Error(size, "one byte short")
		}
		inside := octet.New(b)
		inside.Jump(5 - size)
		if read(inside) || !isBad(inside) {
			t.Error(size, "one byte short behind a jump")
		}
	}
}

func TestTakeRefuses(t *testing.T) {
	for _, n := range places {
		r := octet.New([]byte{1, 2, 3, 4, 5})
		r.Byte()
		b := r.Take(n)
		if n < 0 || n > 4 {
			if b != nil || !isBad(r) {
				t.Error(n, b)
			}
		} else if string(b) != "\x02\x03\x04\x05"[:n] || !stands(r, 1+n, 4-n) {
			t.Error(n, b)
		}
	}
}

// P1.3: Jump.

func TestJump(t *testing.T) {
	for _, from := range []int{0, 1, 3} {
		for _, at := range places {
			r := octet.New([]byte{5, 6, 7})
			r.Take(from)
			r.Jump(at)
			if at < 0 || at > 3 {
				if !isBad(r) {
					t.Error(from, at)
				}
			} else if !stands(r, at, 3-at) {
				t.Error(from, at, r.At(), r.Left(), r.Bad())
			}
		}
	}
}

func TestExampleOfJumps(t *testing.T) {
	r := octet.New([]byte{1, 2, 3})
	r.Jump(2)
	if r.Byte() != 3 {
		t.Error("at 2")
	}
	r.Jump(0)
	if r.Byte() != 1 {
		t.Error("at 0")
	}
	r.Jump(4)
	if !r.Bad() {
		t.Error("at 4")
	}
}

func TestJumpsOfNoBytes(t *testing.T) {
	r := octet.New(nil)
	r.Jump(0)
	if !stands(r, 0, 0) {
		t.Error("at the end")
	}
	r.Jump(1)
	if !isBad(r) {
		t.Error("past the end")
	}
}

// P1.3: a bad reader stays bad, however it became so.

func TestBadStaysBad(t *testing.T) {
	for i, spoil := range []func(r *octet.Reader){
		func(r *octet.Reader) { r.Jump(6); r.Byte() },
		func(r *octet.Reader) { r.Jump(5); r.U16() },
		func(r *octet.Reader) { r.Jump(3); r.U32() },
		func(r *octet.Reader) { r.Take(7) },
		func(r *octet.Reader) { r.Take(-1) },
		func(r *octet.Reader) { r.Jump(7) },
		func(r *octet.Reader) { r.Jump(-1) },
	} {
		r := octet.New([]byte{1, 2, 3, 4, 5, 6})
		r.Byte()
		spoil(r)
		if !isBad(r) {
			t.Error(i)
		}
	}
}

// Rule 5: readers that New did not answer.

func TestNoReaders(t *testing.T) {
	var none *octet.Reader
	copied := *octet.New([]byte{1, 2, 3, 4, 5, 6})
	for i, r := range []*octet.Reader{none, {}, new(octet.Reader), &copied} {
		if !isBad(r) {
			t.Error(i)
		}
	}
}

func TestACopyDoesNothingToItsReader(t *testing.T) {
	r := octet.New([]byte{1, 2, 3})
	r.Byte()
	copied := *r
	copied.Take(-1)
	copied.Jump(3)
	if !stands(r, 1, 2) || r.U16() != 515 {
		t.Error("reader")
	}
}

// Rule 4: a reader keeps nothing of what it was handed, and hands out nothing that it keeps.

func TestReaderKeepsNothing(t *testing.T) {
	b := []byte{1, 2, 3, 4}
	r := octet.New(b[:3])
	b[0], b[1] = 8, 9
	if r.Byte() != 1 || r.Byte() != 2 {
		t.Error("changed from outside")
	}
	if r.Left() != 1 || r.U16() != 0 || !r.Bad() {
		t.Error("spare room was read")
	}
	if string(b) != "\x08\x09\x03\x04" {
		t.Error("changed from inside", b)
	}
}

func TestTakeIsNewMemory(t *testing.T) {
	b := []byte{1, 2, 3, 4}
	r := octet.New(b)
	first := r.Take(2)
	for i := range first[:cap(first)] {
		first[:cap(first)][i] = 9
	}
	if string(r.Take(2)) != "\x03\x04" {
		t.Error("the spare room is the reader's")
	}
	r.Jump(0)
	if string(r.Take(4)) != "\x01\x02\x03\x04" || string(b) != "\x01\x02\x03\x04" {
		t.Error("the bytes are the reader's")
	}
	r.Jump(0)
	none := append(r.Take(0), 9)
	if len(none) != 1 || string(r.Take(4)) != "\x01\x02\x03\x04" {
		t.Error("the spare room of none is the reader's")
	}
}

// P1: two readers of the same bytes do nothing to one another.

func TestReadersStandAlone(t *testing.T) {
	b := []byte{1, 2, 3}
	one, two := octet.New(b), octet.New(b)
	one.U16()
	if !stands(two, 0, 3) {
		t.Error("moved")
	}
	one.Jump(-1)
	if !stands(two, 0, 3) || two.Byte() != 1 {
		t.Error("spoilt")
	}
}

// P1.4: reading goes on from where it stood, and behind a jump back the same bytes are read again.

func TestReadsAgain(t *testing.T) {
	b := make([]byte, 300)
	for i := range b {
		b[i] = byte(i * 11)
	}
	r := octet.New(b)
	for at := range b {
		r.Jump(at)
		once := r.Take(len(b) - at)
		r.Jump(at)
		again := r.Take(len(b) - at)
		if !bytes.Equal(once, b[at:]) || !bytes.Equal(again, b[at:]) {
			t.Fatal(at)
		}
	}
}

// model is a reader told another way: its place, or -1 if it is bad.
type model struct {
	b  []byte
	at int
}

func (m *model) take(n int) []byte {
	if m.at < 0 || n < 0 || n > len(m.b)-m.at {
		m.at = -1
		return nil
	}
	p := m.b[m.at : m.at+n]
	m.at += n
	return p
}

func (m *model) jump(at int) {
	if m.at < 0 || at < 0 || at > len(m.b) {
		m.at = -1
		return
	}
	m.at = at
}

func (m *model) same(r *octet.Reader) bool {
	if m.at < 0 {
		return r.Bad() && r.At() == 0 && r.Left() == 0
	}
	return stands(r, m.at, len(m.b)-m.at)
}

func worthOf(p []byte) (n uint64) {
	for _, c := range p {
		n = n*256 + uint64(c)
	}
	return n
}

// step does one thing to both, and tells whether both answered the same.
func step(r *octet.Reader, m *model, do, n int) bool {
	switch do {
	case 0:
		return uint64(r.Byte()) == worthOf(m.take(1))
	case 1:
		return uint64(r.U16()) == worthOf(m.take(2))
	case 2:
		return uint64(r.U32()) == worthOf(m.take(4))
	case 3:
		return bytes.Equal(r.Take(n), m.take(n))
	}
	r.Jump(n)
	m.jump(n)
	return true
}

func TestReaderByAModel(t *testing.T) {
	chance := uint32(1)
	next := func(n int) int {
		chance = chance*1664525 + 1013904223
		return int(chance>>8) % n
	}
	for round := range 20000 {
		b := make([]byte, next(24))
		for i := range b {
			b[i] = byte(next(256))
		}
		r, m := octet.New(b), &model{b: b}
		for range 12 {
			do, n := next(5), next(len(b)+3)-1
			if next(40) == 0 {
				n = []int{math.MinInt, math.MaxInt}[next(2)]
			}
			if !step(r, m, do, n) || !m.same(r) {
				t.Fatal(round, b, do, n, r.At(), m.at)
			}
		}
	}
}

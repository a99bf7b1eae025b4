package fit_test

import (
	"math"
	"math/rand"
	"slices"
	"testing"

	"nomenclator/api"
	"nomenclator/fit"
	"nomenclator/message"
)

// P12.3 and P3: what follows, asked of the bytes alone.

// said tells a message's saying record, and whether it has one.
func said(m api.Message) (api.Record, bool) {
	at := slices.IndexFunc(m.Additional, func(r api.Record) bool { return r.Type == api.OPT })
	if at < 0 {
		return api.Record{}, false
	}
	return m.Additional[at], true
}

// sets tells a message's records, set by set, list by list, by what Sets counts.
func sets(m api.Message) [][]api.Record {
	l := slices.Clone(m.Additional)
	if at := slices.IndexFunc(l, func(r api.Record) bool { return r.Type == api.OPT }); at >= 0 {
		l = slices.Delete(l, at, at+1)
	}
	l = slices.Concat(m.Answer, m.Authority, l)
	var all [][]api.Record
	for _, n := range fit.Sets(m) {
		all = append(all, l[:n])
		l = l[n:]
	}
	return all
}

// follows tells that a message is rightly short for a size, and how many sets it has left.
func follows(t *testing.T, m api.Message, size int) (left int, ok bool) {
	t.Helper()
	b, e := fit.Bytes(m, size)
	if e != api.OK {
		if e != api.ErrLong || len(b) != 0 {
			t.Fatalf("Bytes of %d = %d, %d", size, len(b), e)
		}
		return 0, false
	}
	if len(b) > size || len(b) > 65535 || len(b) < 12 {
		t.Fatalf("Bytes of %d = %d", size, len(b))
	}
	short, e := message.Read(b)
	if cut, f := fit.Cut(m, size); e != api.OK || f != api.OK || !message.Same(short, cut) {
		t.Fatalf("Read of Bytes of %d = %s, %d; Cut = %s, %d", size, brief(short), e, brief(cut), f)
	}
	was, is := sets(m), sets(short)
	if len(is) > len(was) || !alike(is, was[:len(is)]) {
		t.Fatalf("%s to %d is %s: these are not its first sets", brief(m), size, brief(short))
	}
	missing := len(short.Answer) < len(m.Answer) || len(short.Authority) < len(m.Authority)
	if short.TC != (m.TC || missing) {
		t.Fatalf("%s to %d is %s: TC", brief(m), size, brief(short))
	}
	o, there := said(m)
	p, stays := said(short)
	if there != stays || !alike(o, p) {
		t.Fatalf("%s to %d is %s: the saying record", brief(m), size, brief(short))
	}
	short.TC, short.Answer, short.Authority, short.Additional = m.TC, m.Answer, m.Authority, m.Additional
	if !message.Same(short, m) {
		t.Fatalf("%s to %d: the head or the questions are others", brief(m), size)
	}
	return len(is), true
}

// A greater size never leaves out more, and one set more is told just when it fits.
func TestWhatFollows(t *testing.T) {
	r := rand.New(rand.NewSource(124))
	for range 80 {
		m := some(r, 5)
		whole, _ := message.Bytes(m)
		last, could := -1, false
		for size := range len(whole) + 3 {
			left, ok := follows(t, m, size)
			if could && (!ok || left < last) {
				t.Fatalf("%s: %d leave %d sets, one less %d", brief(m), size, left, last)
			}
			if ok && left > last {
				if b, _ := fit.Bytes(m, size); len(b) != size {
					t.Fatalf("%s: with %d there are %d sets, with one less %d", brief(m), size, left, last)
				}
			}
			last, could = left, ok
		}
		if last != len(fit.Sets(m)) || !could {
			t.Fatalf("%s: with all bytes there are %d sets", brief(m), last)
		}
	}
}

// What is cut and cut again is what would be cut at once.
func TestCutAgain(t *testing.T) {
	r := rand.New(rand.NewSource(125))
	for range 500 {
		m := some(r, 6)
		size := 12 + r.Intn(300)
		once, e := fit.Cut(m, size)
		if e != api.OK {
			continue
		}
		if again, e := fit.Cut(once, size); e != api.OK || !message.Same(again, once) {
			t.Fatalf("%s to %d twice = %s, %d", brief(m), size, brief(again), e)
		}
		less := size - r.Intn(40)
		want, e := fit.Cut(m, less)
		if got, f := fit.Cut(once, less); f != e || !message.Same(got, want) {
			t.Fatalf("%s to %d and %d = %s, %d; not %s, %d", brief(m), size, less, brief(got), f, brief(want), e)
		}
	}
}

// P1: whatever bytes are a message's, it is cut rightly to any size, or refused.
func FuzzCut(f *testing.F) {
	r := rand.New(rand.NewSource(126))
	for range 10 {
		b, _ := message.Bytes(some(r, 4))
		f.Add(b, 12+r.Intn(200))
	}
	f.Add([]byte{}, 0)
	f.Add(make([]byte, 12), math.MaxInt)
	f.Fuzz(func(t *testing.T, b []byte, size int) {
		m, e := message.Read(b)
		if e != api.OK {
			return
		}
		left, ok := follows(t, m, size)
		bytes := sizes(m)
		if n := setsFor(bytes, size); ok != (n >= 0) || ok && left != n {
			t.Errorf("%s to %d: %d sets, %v, not %d", brief(m), size, left, ok, n)
		}
		if size < math.MaxInt {
			if more, fits := follows(t, m, size+1); ok && (!fits || more < left) {
				t.Errorf("%s to %d: %d sets, to one more %d", brief(m), size, left, more)
			}
		}
	})
}

package scan

import (
	"strings"

	"nomenclator/api"
)

// state is where in a text a byte stands.
type state uint8

const (
	between         state = iota // where no word has begun
	inWord                       // in a word that is not in quotes
	escaped                      // in such a word, behind a \ that the byte belongs to
	inQuotes                     // in a word in quotes
	escapedInQuotes              // in such a word, behind a \ that the byte belongs to
	behindQuotes                 // right behind a word in quotes
	inRemark                     // behind a ; up to the end of the line
)

// reading is a text that is being read, and what was read of it.
type reading struct {
	text    string
	line    int         // the line of the byte that is read
	open    int         // how many brackets are open
	start   int         // where the last word began, without a " ahead of it
	entry   api.Entry   // what there is of the entry that is read
	entries []api.Entry // the entries ahead of it
}

// run reads the text to its end, or to the first fault.
func (r *reading) run() api.Fault {
	stands, err := between, api.OK
text:
	for place := range len(r.text) {
		c := r.text[place]
		// Neither quotes nor a \ carry a word over the end of its line.
		if c == '\n' && (stands == inQuotes || stands.isEscaped()) {
			err = api.ErrScan
			break text
		}
		switch stands {
		case between:
			stands, err = r.first(place)
		case inWord:
			stands, err = r.next(place)
		case escaped:
			stands = inWord
		case inQuotes:
			stands, err = r.nextInQuotes(place)
		case escapedInQuotes:
			stands = inQuotes
		case behindQuotes:
			if !endsWord(c) {
				err = api.ErrScan
				break text
			}
			stands, err = r.outside(place)
		case inRemark:
			if c == '\n' {
				stands, err = r.outside(place)
			}
		}
		if err != api.OK {
			break text
		}
	}
	if err != api.OK {
		return api.Fault{Err: err, Line: r.line}
	}
	return r.end(stands)
}

// isEscaped tells whether the byte belongs to a \ ahead of it.
func (s state) isEscaped() bool { return s == escaped || s == escapedInQuotes }

// first reads a byte where no word has begun.
func (r *reading) first(place int) (state, api.Errno) {
	c := r.text[place]
	if endsWord(c) {
		return r.outside(place)
	}
	r.start = place
	switch c {
	case '"':
		r.start = place + 1
		return inQuotes, api.OK
	case '\\':
		return escaped, api.OK
	}
	return inWord, api.OK
}

// next reads a byte that goes on with a word, or ends it.
func (r *reading) next(place int) (state, api.Errno) {
	c := r.text[place]
	if endsWord(c) {
		if err := r.keep(place, false); err != api.OK {
			return between, err
		}
		return r.outside(place)
	}
	switch c {
	case '"':
		return between, api.ErrScan
	case '\\':
		return escaped, api.OK
	}
	return inWord, api.OK
}

// nextInQuotes reads a byte that goes on with a word in quotes, or ends it.
func (r *reading) nextInQuotes(place int) (state, api.Errno) {
	switch r.text[place] {
	case '"':
		return behindQuotes, r.keep(place, true)
	case '\\':
		return escapedInQuotes, api.OK
	}
	return inQuotes, api.OK
}

// outside reads a byte that is no word's.
func (r *reading) outside(place int) (state, api.Errno) {
	switch r.text[place] {
	case ';':
		return inRemark, api.OK
	case '(':
		r.open++
	case ')':
		if r.open == 0 {
			return between, api.ErrScan
		}
		r.open--
	case '\n':
		r.line++
		if r.open == 0 {
			r.close()
			r.begin(place + 1)
		}
	}
	return between, api.OK
}

// end reads the end of the text.
func (r *reading) end(stands state) api.Fault {
	last := api.Fault{Err: api.ErrScan, Line: Lines(r.text)}
	if stands == inQuotes || stands.isEscaped() {
		return last
	}
	if stands == inWord {
		if err := r.keep(len(r.text), false); err != api.OK {
			return api.Fault{Err: err, Line: r.line}
		}
	}
	if r.open > 0 {
		return last
	}
	r.close()
	return api.Fault{}
}

// keep puts the word that ends ahead of a place to the entry. It is copied: part of the text would hold the whole of it.
func (r *reading) keep(place int, quoted bool) api.Errno {
	if len(r.entry.Words) == api.MaxWords {
		return api.ErrLong
	}
	if len(r.entry.Words) == 0 {
		r.entry.Line = r.line
	}
	word := strings.Clone(r.text[r.start:place])
	r.entry.Words = append(r.entry.Words, api.Term{Text: word, Quoted: quoted})
	return api.OK
}

// begin begins an entry at a place.
func (r *reading) begin(place int) {
	r.entry = api.Entry{Blank: place < len(r.text) && isBlank(r.text[place])}
}

// close puts the entry to those ahead of it, if it is one.
func (r *reading) close() {
	if len(r.entry.Words) > 0 {
		r.entries = append(r.entries, r.entry)
	}
}

// endsWord tells whether a byte ends a word, and is itself none's.
func endsWord(c byte) bool {
	return isBlank(c) || c == '\n' || c == ';' || c == '(' || c == ')'
}

func isBlank(c byte) bool { return c == ' ' || c == '\t' || c == '\r' }

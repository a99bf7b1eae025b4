package name

import (
	"strings"

	"nomenclator/api"
	"nomenclator/label"
)

const (
	dot    = "." // the root's text, and what ends a label's
	atSign = "@" // the origin's text, where one is given
)

// Text tells a name's text.
func Text(n api.Name) (string, api.Errno) {
	if e := Check(n); e != api.OK {
		return "", e
	}
	if len(n) == 0 {
		return dot, api.OK
	}
	var t strings.Builder
	for _, l := range n {
		t.WriteString(label.Text(l))
		t.WriteString(dot)
	}
	return t.String(), api.OK
}

// Parse reads a name's text.
func Parse(s string) (api.Name, api.Errno) {
	n, whole, e := labels(s)
	switch {
	case e != api.OK:
		return nil, e
	case !whole:
		return nil, api.ErrName
	}
	return may(n)
}

// Relative reads a text under an origin. Whether a text is Parse's is told by its labels, not by its last bytes: the backslash ahead of a dot may be one that is escaped itself.
func Relative(s string, origin api.Name) (api.Name, api.Errno) {
	if e := Check(origin); e != api.OK {
		return nil, e
	}
	if s == atSign {
		return Copy(origin), api.OK
	}
	n, whole, e := labels(s)
	switch {
	case e != api.OK:
		return nil, e
	case whole:
		return may(n)
	}
	return Join(n, origin)
}

// labels reads a text's labels, and tells whether it is a whole name's: whether a dot stands behind the last one, too. It reads on when the name is too long already, for a label's fault further on is told first.
func labels(s string) (api.Name, bool, api.Errno) {
	if s == dot {
		return nil, true, api.OK
	}
	var n api.Name
	for {
		l, size, e := label.Parse(s)
		if e != api.OK {
			return nil, false, e
		}
		n = append(n, l)
		left, whole := strings.CutPrefix(s[size:], dot)
		if left == "" {
			return n, whole, api.OK
		}
		s = left
	}
}

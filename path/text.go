package path

import (
	"strings"

	"consulate/api"
	"consulate/number"
)

// none is the text of a path without segments.
const none = "-"

// marks are the bytes that no number's text has.
const marks = "{}()[],| "

// around is what stands around a segment's numbers, and between them.
type around struct{ open, between, end string }

// brackets has what each kind of segment has.
var brackets = [...]around{
	Set:            {"{", ",", "}"},
	Sequence:       {"", " ", ""},
	ConfedSequence: {"(", " ", ")"},
	ConfedSet:      {"[", ",", "]"},
}

// gap is what stands between a segment and the next one, of these kinds. Two
// Sequences would be one without a bar.
func gap(kind, next byte) string {
	if kind == Sequence && next == Sequence {
		return " | "
	}
	return " "
}

// Text answers p's text (P7.3).
func (p Path) Text() string {
	if !p.May() {
		return ""
	}
	if len(p) == 0 {
		return none
	}
	var t strings.Builder
	for k, s := range p {
		if k > 0 {
			t.WriteString(gap(p[k-1].Kind, s.Kind))
		}
		t.WriteString(s.text())
	}
	return t.String()
}

// text is the text of s.
func (s Segment) text() string {
	var l []string
	for _, n := range s.Numbers {
		l = append(l, number.Text(n))
	}
	a := brackets[s.Kind]
	return a.open + strings.Join(l, a.between) + a.end
}

// Parse reads a path's text (P7.3).
func Parse(s string) (Path, api.Errno) {
	if s == none {
		return nil, api.OK
	}
	r := reading{rest: s}
	if !r.path() {
		return nil, api.ErrForm
	}
	if r.err != api.OK {
		return nil, r.err
	}
	if !r.read.May() {
		return nil, api.ErrFull
	}
	return r.read, api.OK
}

// reading is a path's text that is read from the left. What is wrong with a
// number is noted only, for the form of the whole text goes ahead of it.
type reading struct {
	rest string
	read Path
	err  api.Errno // of the first number that has one
}

// path reads all segments; false, if their form is wrong.
func (r *reading) path() bool {
	kind := kindOf(r.rest)
	for r.segment(kind) {
		if r.rest == "" {
			return true
		}
		next := kindOf(r.rest[1:])
		if !r.cut(gap(kind, next)) {
			return false
		}
		kind = next
	}
	return false
}

// segment reads a segment of this kind; false, if its form is wrong.
func (r *reading) segment(kind byte) bool {
	a, s := brackets[kind], Segment{Kind: kind}
	more := r.cut(a.open)
	for more {
		n, ok := r.number()
		if !ok {
			return false
		}
		s.Numbers = append(s.Numbers, n)
		more = r.goesOn(a.between)
	}
	r.read = append(r.read, s)
	return r.cut(a.end)
}

// number reads a number; false, if there is none, right or wrong.
func (r *reading) number() (api.AS, bool) {
	text := unmarked(r.rest)
	n, e := number.Parse(text)
	if r.err == api.OK {
		r.err = e
	}
	return n, text != "" && r.cut(text)
}

// goesOn cuts what is between a segment's numbers, if one more is behind it: a
// blank may also be the gap to the next segment.
func (r *reading) goesOn(between string) bool {
	behind, is := strings.CutPrefix(r.rest, between)
	return is && unmarked(behind) != "" && r.cut(between)
}

// cut takes s off what is still to be read; false, if it is not there.
func (r *reading) cut(s string) bool {
	behind, is := strings.CutPrefix(r.rest, s)
	if is {
		r.rest = behind
	}
	return is
}

// unmarked is what s has ahead of the first mark.
func unmarked(s string) string {
	if k := strings.IndexAny(s, marks); k >= 0 {
		return s[:k]
	}
	return s
}

// kindOf is the kind of segment that s begins with.
func kindOf(s string) byte {
	for kind, a := range brackets {
		if a.open != "" && strings.HasPrefix(s, a.open) {
			return byte(kind)
		}
	}
	return Sequence
}

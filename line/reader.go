package line

import (
	"dateline/api"
	"dateline/fault"
)

// reader of one line, and where in it the next byte is.
type reader struct {
	number int
	row    string
	at     int
}

// atEnd: a '#' outside of a field ends a line as well as its last byte does.
func (r *reader) atEnd() bool {
	return r.at == len(r.row) || r.row[r.at] == '#'
}

func (r *reader) skipGaps() {
	for r.at < len(r.row) && isGap(r.row[r.at]) {
		r.at++
	}
}

// field that begins here.
func (r *reader) field() string {
	var f string
	if r.row[r.at] == '"' {
		f = r.quoted()
	} else {
		f = r.take(func(c byte) bool { return !isGap(c) && c != '#' && c != '"' })
	}
	// Behind a field without '"' around it, what must not follow is just a '"' within it.
	fault.Require(r.atEnd() || isGap(r.row[r.at]), r.number, api.ErrForm)
	fault.Require(len(f) <= api.MaxField, r.number, api.ErrMany)
	return f
}

func (r *reader) quoted() string {
	r.at++
	f := r.take(func(c byte) bool { return c != '"' })
	fault.Require(r.at < len(r.row), r.number, api.ErrForm)
	r.at++
	return f
}

// take the bytes for which a field goes on. They are copied, so that an answer keeps nothing of the text.
func (r *reader) take(goesOn func(c byte) bool) string {
	var taken []byte
	for r.at < len(r.row) && goesOn(r.row[r.at]) {
		fault.Require(isText(r.row[r.at]), r.number, api.ErrForm)
		taken = append(taken, r.row[r.at])
		r.at++
	}
	return string(taken)
}

// isGap: does the byte part fields?
func isGap(c byte) bool { return c == ' ' || c == '\t' }

// isText: may the byte stand in a line?
func isText(c byte) bool { return c >= 32 && c <= 126 || c == '\t' }

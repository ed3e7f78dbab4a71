package wire

import (
	"dateline/api"
	"dateline/fault"
)

// reader of a table: the bytes that are not yet read. It gives up where there are too few, or where a kind is none.
type reader struct{ rest string }

func (r *reader) table() api.Table {
	var kinds []api.Local
	r.repeat(func() { kinds = append(kinds, r.local()) })
	kind := func() api.Local {
		which := r.number(countBytes)
		fault.Require(which < len(kinds), 0, api.ErrForm)
		return kinds[which]
	}
	t := api.Table{First: kind()}
	r.repeat(func() {
		at := r.number(timeBytes) - timeBase
		t.Changes = append(t.Changes, api.Change{At: at, Local: kind()})
	})
	return t
}

func (r *reader) local() api.Local {
	var l api.Local
	l.Shift = r.number(shiftBytes) - shiftBase
	l.Save = r.number(saveBytes)
	l.Name = r.take(r.number(nameBytes))
	return l
}

// repeat what read reads as often as the number ahead of it says.
func (r *reader) repeat(read func()) {
	for range r.number(countBytes) {
		read()
	}
}

// number of so many bytes, the least one first.
func (r *reader) number(size int) int {
	n := 0
	for i, b := range []byte(r.take(size)) {
		n |= int(b) << (8 * i)
	}
	return n
}

// take so many bytes.
func (r *reader) take(size int) string {
	fault.Require(size <= len(r.rest), 0, api.ErrForm)
	taken := r.rest[:size]
	r.rest = r.rest[size:]
	return taken
}

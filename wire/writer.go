package wire

import (
	"strings"

	"dateline/api"
)

// writer of a table of which nothing is wrong: its bytes so far.
type writer struct{ strings.Builder }

func (w *writer) table(t api.Table) {
	kinds, which := kindsOf(t)
	w.number(len(kinds), countBytes)
	for _, l := range kinds {
		w.local(l)
	}
	w.number(which[t.First], countBytes)
	w.number(len(t.Changes), countBytes)
	for _, c := range t.Changes {
		w.number(c.At+timeBase, timeBytes)
		w.number(which[c.Local], countBytes)
	}
}

func (w *writer) local(l api.Local) {
	w.number(l.Shift+shiftBase, shiftBytes)
	w.number(l.Save, saveBytes)
	w.number(len(l.Name), nameBytes)
	w.WriteString(l.Name)
}

// number in so many bytes, the least one first.
func (w *writer) number(n, size int) {
	for range size {
		w.WriteByte(byte(n))
		n >>= 8
	}
}

// kindsOf a table, as they first stand in it, and which one each is.
func kindsOf(t api.Table) (kinds []api.Local, which map[api.Local]int) {
	which = map[api.Local]int{}
	add := func(l api.Local) {
		if _, known := which[l]; !known {
			which[l] = len(kinds)
			kinds = append(kinds, l)
		}
	}
	add(t.First)
	for _, c := range t.Changes {
		add(c.Local)
	}
	return kinds, which
}

// Package era: eras of zones, while something is saved.
package era

import (
	"strings"

	"dateline/api"
)

// Local of an era, since a time at which something is saved.
func Local(e api.Era, saved api.Time) api.Local {
	return api.Local{Shift: e.Shift + saved.Save, Save: saved.Save, Name: nameOf(e.Format, saved)}
}

func nameOf(format string, saved api.Time) string {
	if head, tail, ok := strings.Cut(format, "%s"); ok {
		return head + saved.Letter + tail
	}
	standard, summer, ok := strings.Cut(format, "/")
	if ok && saved.Save > 0 {
		return summer
	}
	return standard
}

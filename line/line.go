// Package line: lines: see doc/02-line.md.
package line

import (
	"strings"

	"dateline/api"
	"dateline/fault"
)

// Split a text into the lines that have fields; with an error comes the number of its line (0: the whole text).
func Split(s string) ([]api.Line, int, api.Errno) {
	var lines []api.Line
	number, errno := fault.Attempt(func() { lines = splitText(s) })
	return lines, number, errno
}

// Join lines to a text that Split splits to the same lines.
func Join(l []api.Line) (string, api.Errno) {
	var text string
	_, errno := fault.Attempt(func() { text = joinText(l) })
	return text, errno
}

func splitText(s string) []api.Line {
	fault.Require(len(s) <= api.MaxText, 0, api.ErrMany)
	var lines []api.Line
	for i, row := range strings.Split(s, "\n") {
		l := splitRow(i+1, row)
		if len(l.Fields) > 0 {
			lines = append(lines, l)
		}
	}
	fault.Require(len(lines) <= api.MaxLines, 0, api.ErrMany)
	return lines
}

func splitRow(number int, row string) api.Line {
	l := api.Line{Number: number, Inner: row != "" && isGap(row[0])}
	r := &reader{number: number, row: row}
	for r.skipGaps(); !r.atEnd(); r.skipGaps() {
		l.Fields = append(l.Fields, r.field())
		fault.Require(len(l.Fields) <= api.MaxFields, number, api.ErrMany)
	}
	return l
}

func joinText(l []api.Line) string {
	fault.Require(len(l) <= api.MaxLines, 0, api.ErrMany)
	var text strings.Builder
	for i, each := range l {
		text.WriteString(joinRow(i+1, each))
	}
	fault.Require(text.Len() <= api.MaxText, 0, api.ErrMany)
	return text.String()
}

func joinRow(number int, l api.Line) string {
	fault.Require(len(l.Fields) > 0, number, api.ErrForm)
	fault.Require(len(l.Fields) <= api.MaxFields, number, api.ErrMany)
	var row strings.Builder
	if l.Inner {
		row.WriteByte(' ')
	}
	for i, f := range l.Fields {
		if i > 0 {
			row.WriteByte(' ')
		}
		row.WriteString(joinField(number, f))
	}
	row.WriteByte('\n')
	return row.String()
}

func joinField(number int, f string) string {
	for i := range len(f) {
		fault.Require(isText(f[i]) && f[i] != '"', number, api.ErrForm)
	}
	fault.Require(len(f) <= api.MaxField, number, api.ErrMany)
	if f == "" || strings.ContainsAny(f, " \t#") {
		return `"` + f + `"`
	}
	return f
}

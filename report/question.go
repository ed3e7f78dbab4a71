package report

import (
	"strconv"
	"strings"

	"dateline/api"
	"dateline/line"
	"dateline/signs"
)

// mostDigits of a whole number.
const mostDigits = 12

// question: of which name, and what is told of its table.
type question struct {
	name string
	tell func(t api.Table) (string, api.Errno)
}

// parse a question; false, if it is none.
func parse(text string) (question, bool) {
	f := fields(text)
	if len(f) < 3 || !signs.IsName(f[0]) {
		return question{}, false
	}
	if f[1] == "at" && len(f) == 3 {
		at, ok := wholeNumber(f[2])
		return question{f[0], func(t api.Table) (string, api.Errno) { return tellAt(t, at) }}, ok
	}
	if f[1] == "when" && len(f) == 4 {
		date, isDate := numbers(f[2], "-", 4, 2, 2)
		clock, isClock := numbers(f[3], ":", 2, 2, 2)
		return question{f[0], func(t api.Table) (string, api.Errno) { return tellWhen(t, date, clock) }}, isDate && isClock
	}
	return question{}, false
}

// fields of a question; none, if it is not one line.
func fields(text string) []string {
	lines, _, errno := line.Split(text)
	if errno != api.OK || len(lines) != 1 || lines[0].Inner || strings.Contains(text, "\n") {
		return nil
	}
	return lines[0].Fields
}

// wholeNumber that stands in a text, as it is written most plainly.
func wholeNumber(text string) (int, bool) {
	digits := strings.TrimPrefix(text, "-")
	if !isDigits(digits) || digits == "" || len(digits) > mostDigits {
		return 0, false
	}
	if digits[0] == '0' && text != "0" {
		return 0, false
	}
	n, _ := strconv.Atoi(text)
	return n, true
}

// numbers that stand in a text with a mark between, each of as many digits as there must be.
func numbers(text, mark string, digits ...int) ([]int, bool) {
	parts := strings.Split(text, mark)
	if len(parts) != len(digits) {
		return nil, false
	}
	var l []int
	for i, part := range parts {
		if !isDigits(part) || len(part) != digits[i] {
			return nil, false
		}
		n, _ := strconv.Atoi(part)
		l = append(l, n)
	}
	return l, true
}

func isDigits(s string) bool { return signs.Span(s, signs.IsDigit) == len(s) }

package source

import (
	"strconv"
	"strings"

	"dateline/api"
	"dateline/fault"
	"dateline/names"
	"dateline/signs"
)

// Seconds of parts of days.
const (
	hourTime   = 3600
	minuteTime = 60
)

// field of a line, and what of it is not read yet.
type field struct {
	number int
	rest   string
}

// require that something holds: all that can be wrong of a field is its form.
func (f *field) require(holds bool) { fault.Require(holds, f.number, api.ErrForm) }

// take the bytes for which the field goes on.
func (f *field) take(goesOn func(c byte) bool) string {
	n := signs.Span(f.rest, goesOn)
	taken := f.rest[:n]
	f.rest = f.rest[n:]
	return taken
}

// skip a text, if it comes next.
func (f *field) skip(text string) bool {
	rest, ok := strings.CutPrefix(f.rest, text)
	f.rest = rest
	return ok
}

func (f *field) isNext(text string) bool { return strings.HasPrefix(f.rest, text) }

// all that is not read yet, if it is of a form.
func (f *field) all(isForm func(s string) bool) string {
	f.require(isForm(f.rest))
	return f.take(func(byte) bool { return true })
}

// digits, from least to most of them: their number.
func (f *field) digits(least, most int) int {
	return f.value(f.take(signs.IsDigit), least, most)
}

// value of digits that were taken.
func (f *field) value(digits string, least, most int) int {
	f.require(len(digits) >= least && len(digits) <= most)
	n, err := strconv.Atoi(digits)
	f.require(err == nil)
	return n
}

func (f *field) name() string { return f.all(signs.IsName) }

func (f *field) format() string { return f.all(signs.IsFormat) }

func (f *field) letter() string {
	if f.skip("-") {
		return ""
	}
	return f.all(func(s string) bool { return s != "" && signs.IsLetters(s) })
}

func (f *field) year() int { return f.digits(4, 4) }

// lastYear of a rule that begins in a year.
func (f *field) lastYear(from int) int {
	if f.skip("only") {
		return from
	}
	if f.skip("max") {
		return api.MaxRule
	}
	return f.year()
}

func (f *field) month() int {
	n, ok := names.MonthOf(f.take(signs.IsLetter))
	f.require(ok)
	return n
}

func (f *field) weekday() int {
	n, ok := names.WeekdayOf(f.take(signs.IsLetter))
	f.require(ok)
	return n
}

func (f *field) day() int { return f.digits(1, 2) }

func (f *field) form() api.Form {
	if signs.Span(f.rest, signs.IsDigit) > 0 {
		return api.Form{Kind: api.FormDay, N: f.day()}
	}
	if f.skip("last") {
		return api.Form{Kind: api.FormLast, Weekday: f.weekday()}
	}
	weekday := f.weekday()
	if f.skip(">=") {
		return api.Form{Kind: api.FormFrom, Weekday: weekday, N: f.day()}
	}
	f.require(f.skip("<="))
	return api.Form{Kind: api.FormTo, Weekday: weekday, N: f.day()}
}

// time without a kind of clock: its seconds.
func (f *field) time() int {
	hours := f.take(signs.IsDigit)
	if hours == "0" && !f.isNext(":") {
		return 0
	}
	n := f.value(hours, 1, 2)*hourTime + f.sixty()*minuteTime
	if f.isNext(":") {
		n += f.sixty()
	}
	return n
}

// sixty: a colon, and two digits from 00 to 59.
func (f *field) sixty() int {
	f.require(f.skip(":"))
	n := f.digits(2, 2)
	f.require(n < 60)
	return n
}

// shift: a time, maybe below 0.
func (f *field) shift() int {
	if f.skip("-") {
		return -f.time()
	}
	return f.time()
}

// rules of an era: their name; or what is always saved.
func (f *field) rules() (string, int) {
	if f.skip("-") {
		return "", 0
	}
	if signs.Span(f.rest, signs.IsDigit) == 0 {
		return f.name(), 0
	}
	f.require(f.rest != "0")
	return "", f.time()
}

// clock: the kind of it, as what is behind a time tells.
func (f *field) clock(kinds map[string]int) int {
	kind, ok := kinds[f.take(signs.IsLetter)]
	f.require(ok)
	return kind
}

package show

import (
	"strconv"
	"strings"

	"dateline/api"
	"dateline/names"
)

// Seconds of parts of days.
const (
	hourTime   = 3600
	minuteTime = 60
)

func ruleLine(r api.Rule) api.Line {
	return api.Line{Fields: []string{
		"Rule",
		r.Name,
		yearText(r.From),
		lastYearText(r.From, r.To),
		names.Month(r.Month),
		formText(r.Form),
		ruleTimeText(r.At, r.Clock),
		timeText(r.Save),
		dashIfEmpty(r.Letter),
	}}
}

// zoneLines: the first era stands in the zone's own line, all others in lines of theirs.
func zoneLines(z api.Zone) []api.Line {
	lines := []api.Line{{Fields: append([]string{"Zone", z.Name}, eraFields(z.Eras[0])...)}}
	for _, e := range z.Eras[1:] {
		lines = append(lines, api.Line{Inner: true, Fields: eraFields(e)})
	}
	return lines
}

func eraFields(e api.Era) []string {
	fields := []string{shiftText(e.Shift), rulesText(e), e.Format}
	if e.Open {
		return fields
	}
	d := e.Until.Date
	return append(fields, yearText(d.Year), names.Month(d.Month), strconv.Itoa(d.Day), untilTimeText(e.Until))
}

func yearText(year int) string { return padded(year, 4) }

func lastYearText(from, to int) string {
	switch to {
	case from:
		return "only"
	case api.MaxRule:
		return "max"
	}
	return yearText(to)
}

func formText(f api.Form) string {
	switch f.Kind {
	case api.FormLast:
		return "last" + names.Weekday(f.Weekday)
	case api.FormFrom:
		return names.Weekday(f.Weekday) + ">=" + strconv.Itoa(f.N)
	case api.FormTo:
		return names.Weekday(f.Weekday) + "<=" + strconv.Itoa(f.N)
	}
	return strconv.Itoa(f.N)
}

// ruleTimeText: clocks on walls need no sign.
func ruleTimeText(at, clock int) string {
	switch clock {
	case api.ClockStandard:
		return timeText(at) + "s"
	case api.ClockUniversal:
		return timeText(at) + "u"
	}
	return timeText(at)
}

// untilTimeText: standard time needs no sign.
func untilTimeText(u api.Until) string {
	if u.Clock == api.ClockUniversal {
		return timeText(u.At) + "u"
	}
	return timeText(u.At)
}

func shiftText(shift int) string {
	if shift < 0 {
		return "-" + timeText(-shift)
	}
	return timeText(shift)
}

func rulesText(e api.Era) string {
	if e.Save > 0 {
		return timeText(e.Save)
	}
	return dashIfEmpty(e.Rules)
}

func timeText(seconds int) string {
	text := strconv.Itoa(seconds/hourTime) + ":" + padded(seconds%hourTime/minuteTime, 2)
	if rest := seconds % minuteTime; rest > 0 {
		text += ":" + padded(rest, 2)
	}
	return text
}

func dashIfEmpty(s string) string {
	if s == "" {
		return "-"
	}
	return s
}

// padded: a number with so many digits, noughts ahead.
func padded(n, digits int) string {
	text := strconv.Itoa(n)
	return strings.Repeat("0", digits-len(text)) + text
}

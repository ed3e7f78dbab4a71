package report

import (
	"strconv"
	"strings"

	"dateline/api"
	"dateline/local"
	"dateline/table"
)

// tellAt: what clocks show at a time, and its name.
func tellAt(t api.Table, at int) (string, api.Errno) {
	l, errno := table.Look(t, at)
	if errno != api.OK {
		return "", errno
	}
	d, second, errno := local.Wall(t, at)
	if errno != api.OK {
		return "", errno
	}
	date := padded(d.Year, 4) + "-" + padded(d.Month, 2) + "-" + padded(d.Day, 2)
	clock := padded(second/3600, 2) + ":" + padded(second/60%60, 2) + ":" + padded(second%60, 2)
	return date + " " + clock + " " + l.Name, api.OK
}

// tellWhen clocks show a date (year, month, day) and so many hours, minutes and seconds.
func tellWhen(t api.Table, date, clock []int) (string, api.Errno) {
	hours, minutes, seconds := clock[0], clock[1], clock[2]
	// A minute too many would be one of the next hour.
	if hours > 23 || minutes > 59 || seconds > 59 {
		return "", api.ErrRange
	}
	d := api.Date{Year: date[0], Month: date[1], Day: date[2]}
	times, errno := local.When(t, d, hours*3600+minutes*60+seconds)
	if errno != api.OK {
		return "", errno
	}
	if len(times) == 0 {
		return "never", api.OK
	}
	return joined(times), api.OK
}

// joined times, a blank between.
func joined(times []int) string {
	var texts []string
	for _, at := range times {
		texts = append(texts, strconv.Itoa(at))
	}
	return strings.Join(texts, " ")
}

// padded: a number, with noughts ahead of it if it has fewer digits.
func padded(n, digits int) string {
	text := strconv.Itoa(n)
	return strings.Repeat("0", max(0, digits-len(text))) + text
}

// Package civil: days: see doc/01-civil.md.
package civil

import "dateline/api"

// Days are counted from the first of January of MinYear inside, so that divisions have nothing below 0.
const (
	epoch      = 719162  // the first of January 1970
	dayCount   = 3652059 // all days from MinYear to MaxYear
	cycleYears = 400     // after so many years the calendar begins anew
	cycleDays  = 146097
	weekDays   = 7
	thursday   = 4
)

// Days of a date: how many it is behind the first of January 1970.
func Days(d api.Date) (int, api.Errno) {
	if !isMonth(d.Year, d.Month) || d.Day < 1 || d.Day > monthDays(d.Year, d.Month) {
		return 0, api.ErrRange
	}
	return daysOf(d), api.OK
}

// Of so many days behind the first of January 1970: the date.
func Of(days int) (api.Date, api.Errno) {
	if days < -epoch || days >= dayCount-epoch {
		return api.Date{}, api.ErrRange
	}
	n := days + epoch
	year := yearAt(n)
	n -= daysAhead(year)
	month := 1
	for n >= monthDays(year, month) {
		n -= monthDays(year, month)
		month++
	}
	return api.Date{Year: year, Month: month, Day: n + 1}, api.OK
}

// Weekday of so many days behind the first of January 1970, from 0, a Sunday, to 6.
func Weekday(days int) int {
	// The rest is taken first: the greatest numbers have no room for anything more.
	return (days%weekDays + weekDays + thursday) % weekDays
}

// On: the date of a form in a month.
func On(year, month int, f api.Form) (api.Date, api.Errno) {
	if !isMonth(year, month) {
		return api.Date{}, api.ErrRange
	}
	if f.Kind < api.FormDay || f.Kind > api.FormTo {
		return api.Date{}, api.ErrKind
	}
	if !fits(f, monthDays(year, month)) {
		return api.Date{}, api.ErrRange
	}
	return Of(formDays(year, month, f))
}

// fits tells whether the weekday and N of a form may stand there, in a month of so many days.
func fits(f api.Form, length int) bool {
	if f.Weekday < 0 || f.Weekday >= weekDays {
		return false
	}
	if f.Kind == api.FormLast {
		return f.N == 0
	}
	if f.Kind == api.FormDay && f.Weekday != 0 {
		return false
	}
	return f.N >= 1 && f.N <= length
}

// formDays of a form that fits; it may lead out of the years that there are.
func formDays(year, month int, f api.Form) int {
	first := daysOf(api.Date{Year: year, Month: month, Day: 1})
	switch f.Kind {
	case api.FormLast:
		return upTo(first+monthDays(year, month)-1, f.Weekday)
	case api.FormFrom:
		return from(first+f.N-1, f.Weekday)
	case api.FormTo:
		return upTo(first+f.N-1, f.Weekday)
	}
	return first + f.N - 1
}

// from a day on, the first such weekday.
func from(days, weekday int) int {
	return days + (weekday-Weekday(days)+weekDays)%weekDays
}

// upTo a day, the last such weekday.
func upTo(days, weekday int) int {
	return days - (Weekday(days)-weekday+weekDays)%weekDays
}

// daysOf a date that there is.
func daysOf(d api.Date) int {
	n := daysAhead(d.Year) + d.Day - 1
	for month := 1; month < d.Month; month++ {
		n += monthDays(d.Year, month)
	}
	return n - epoch
}

// daysAhead of a year, from MinYear on.
func daysAhead(year int) int {
	y := year - api.MinYear
	return y*365 + y/4 - y/100 + y/400
}

// yearAt a day, counted from the beginning of MinYear on.
func yearAt(n int) int {
	// Leap years stand behind others, so years are never a whole day ahead of their mean length, by which a year is never guessed too late; but one may be guessed too early.
	year := n*cycleYears/cycleDays + api.MinYear
	for n >= daysAhead(year+1) {
		year++
	}
	return year
}

func isMonth(year, month int) bool {
	return year >= api.MinYear && year <= api.MaxYear && month >= 1 && month <= 12
}

func isLeap(year int) bool {
	return year%4 == 0 && (year%100 != 0 || year%400 == 0)
}

func monthDays(year, month int) int {
	switch month {
	case 4, 6, 9, 11:
		return 30
	case 2:
		if isLeap(year) {
			return 29
		}
		return 28
	}
	return 31
}

// Package names: what months and weekdays are called in texts.
package names

var months = [...]string{"Jan", "Feb", "Mar", "Apr", "May", "Jun", "Jul", "Aug", "Sep", "Oct", "Nov", "Dec"}

var weekdays = [...]string{"Sun", "Mon", "Tue", "Wed", "Thu", "Fri", "Sat"}

// Month of a number from 1 to 12: what it is called.
func Month(number int) string { return months[number-1] }

// Weekday of a number from 0 to 6: what it is called.
func Weekday(number int) string { return weekdays[number] }

// MonthOf a name: its number; false, if none is called so.
func MonthOf(name string) (int, bool) {
	for i, each := range months {
		if each == name {
			return i + 1, true
		}
	}
	return 0, false
}

// WeekdayOf a name: its number; false, if none is called so.
func WeekdayOf(name string) (int, bool) {
	for i, each := range weekdays {
		if each == name {
			return i, true
		}
	}
	return 0, false
}

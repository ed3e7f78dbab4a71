package names_test

import (
	"testing"
	"time"

	"dateline/names"
)

func TestMonths(t *testing.T) {
	for n := 1; n <= 12; n++ {
		want := time.Month(n).String()[:3]
		if got := names.Month(n); got != want {
			t.Errorf("Month(%d) = %q; want %q", n, got, want)
		}
		if got, ok := names.MonthOf(want); got != n || !ok {
			t.Errorf("MonthOf(%q) = %d, %v; want %d", want, got, ok, n)
		}
	}
}

func TestWeekdays(t *testing.T) {
	for n := range 7 {
		want := time.Weekday(n).String()[:3]
		if got := names.Weekday(n); got != want {
			t.Errorf("Weekday(%d) = %q; want %q", n, got, want)
		}
		if got, ok := names.WeekdayOf(want); got != n || !ok {
			t.Errorf("WeekdayOf(%q) = %d, %v; want %d", want, got, ok, n)
		}
	}
}

func TestNoSuchName(t *testing.T) {
	for _, name := range []string{"", "J", "jan", "JAN", "January", "Ja", "sun", "Sunday", "Su", "JanFeb", " "} {
		if n, ok := names.MonthOf(name); n != 0 || ok {
			t.Errorf("MonthOf(%q) = %d, %v; want none", name, n, ok)
		}
		if n, ok := names.WeekdayOf(name); n != 0 || ok {
			t.Errorf("WeekdayOf(%q) = %d, %v; want none", name, n, ok)
		}
	}
}

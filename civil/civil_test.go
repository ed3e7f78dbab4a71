package civil_test

import (
	"math"
	"testing"
	"time"

	"dateline/api"
	"dateline/civil"
)

const (
	firstDay = -719162 // 0001-01-01
	lastDay  = 2932896 // 9999-12-31
)

func date(year, month, day int) api.Date {
	return api.Date{Year: year, Month: month, Day: day}
}

func form(kind, weekday, n int) api.Form {
	return api.Form{Kind: kind, Weekday: weekday, N: n}
}

// A1: Days of dates that there are.
func TestDaysOfDates(t *testing.T) {
	for _, c := range []struct {
		date api.Date
		want int
	}{
		{date(1970, 1, 1), 0},
		{date(1970, 1, 2), 1},
		{date(1969, 12, 31), -1},
		{date(1970, 2, 28), 58},
		{date(1970, 3, 1), 59},
		{date(1972, 2, 29), 789},
		{date(2000, 2, 29), 11016},
		{date(2000, 3, 1), 11017},
		{date(1900, 2, 28), -25509},
		{date(1900, 3, 1), -25508},
		{date(2100, 3, 1), 47541},
		{date(api.MinYear, 1, 1), firstDay},
		{date(api.MaxYear, 12, 31), lastDay},
	} {
		if n, e := civil.Days(c.date); n != c.want || e != api.OK {
			t.Errorf("Days(%v) = %d, %d; want %d", c.date, n, e, c.want)
		}
	}
}

// A1, P1: Days of dates that there are not.
func TestDaysOfNoDate(t *testing.T) {
	for _, d := range []api.Date{
		{},
		date(0, 1, 1), date(0, 12, 31), date(-1, 1, 1), date(10000, 1, 1),
		date(math.MinInt, 1, 1), date(math.MaxInt, 1, 1),
		date(2000, 0, 1), date(2000, 13, 1), date(2000, -1, 1),
		date(2000, math.MinInt, 1), date(2000, math.MaxInt, 1),
		date(2000, 1, 0), date(2000, 1, 32), date(2000, 1, -1),
		date(2000, 1, math.MinInt), date(2000, 1, math.MaxInt),
		date(2001, 2, 29), date(2000, 2, 30), date(1900, 2, 29), date(2100, 2, 29),
		date(2001, 3, 32), date(2001, 4, 31), date(2001, 5, 32), date(2001, 6, 31),
		date(2001, 7, 32), date(2001, 8, 32), date(2001, 9, 31), date(2001, 10, 32),
		date(2001, 11, 31), date(2001, 12, 32),
	} {
		if n, e := civil.Days(d); n != 0 || e != api.ErrRange {
			t.Errorf("Days(%v) = %d, %d; want 0, ErrRange", d, n, e)
		}
	}
}

// A1, P1: Of at and beyond the ends of the years that there are.
func TestOfEnds(t *testing.T) {
	for n, want := range map[int]api.Date{
		firstDay: date(api.MinYear, 1, 1),
		-1:       date(1969, 12, 31),
		0:        date(1970, 1, 1),
		lastDay:  date(api.MaxYear, 12, 31),
	} {
		if d, e := civil.Of(n); d != want || e != api.OK {
			t.Errorf("Of(%d) = %v, %d; want %v", n, d, e, want)
		}
	}
	for _, n := range []int{firstDay - 1, lastDay + 1, firstDay - 146097, lastDay + 146097, math.MinInt, math.MinInt + 1, math.MaxInt, math.MaxInt - 1} {
		if d, e := civil.Of(n); d != (api.Date{}) || e != api.ErrRange {
			t.Errorf("Of(%d) = %v, %d; want nothing, ErrRange", n, d, e)
		}
	}
}

// A1: Weekday of any number of days, the greatest ones too.
func TestWeekday(t *testing.T) {
	for n, want := range map[int]int{
		-11: 0, -8: 3, -7: 4, -5: 6, -4: 0, -3: 1, -2: 2, -1: 3,
		0: 4, 1: 5, 2: 6, 3: 0, 4: 1, 5: 2, 6: 3, 7: 4,
		firstDay: 1, lastDay: 5,
		math.MaxInt: 4, // 2^63 - 1 is 0 modulo 7
		math.MinInt: 3,
	} {
		if w := civil.Weekday(n); w != want {
			t.Errorf("Weekday(%d) = %d; want %d", n, w, want)
		}
	}
	for _, n := range []int{math.MinInt, firstDay - 1000, -20, lastDay, math.MaxInt - 20} {
		for i := n; i < n+20; i++ {
			if civil.Weekday(i+1) != (civil.Weekday(i)+1)%7 {
				t.Errorf("Weekday(%d) does not follow that of the day ahead", i+1)
			}
		}
	}
}

// A1, A3: each day of all years, held against another calendar; a day later is one more.
func TestDaysToAndFro(t *testing.T) {
	at := time.Date(api.MinYear, 1, 1, 0, 0, 0, 0, time.UTC)
	for n := firstDay; n <= lastDay; n++ {
		want := date(at.Year(), int(at.Month()), at.Day())
		if d, e := civil.Of(n); d != want || e != api.OK {
			t.Fatalf("Of(%d) = %v, %d; want %v", n, d, e, want)
		}
		if m, e := civil.Days(want); m != n || e != api.OK {
			t.Fatalf("Days(%v) = %d, %d; want %d", want, m, e, n)
		}
		if w := civil.Weekday(n); w != int(at.Weekday()) {
			t.Fatalf("Weekday(%d) = %d; want %d", n, w, at.Weekday())
		}
		at = at.AddDate(0, 0, 1)
	}
}

// A2: On in its own month, and in one beside it.
func TestOnForms(t *testing.T) {
	for _, c := range []struct {
		year, month int
		form        api.Form
		want        api.Date
	}{
		{2020, 3, form(api.FormLast, 0, 0), date(2020, 3, 29)},
		{2020, 5, form(api.FormLast, 0, 0), date(2020, 5, 31)},
		{2020, 2, form(api.FormLast, 6, 0), date(2020, 2, 29)},
		{2021, 2, form(api.FormLast, 1, 0), date(2021, 2, 22)},
		{2007, 3, form(api.FormFrom, 0, 8), date(2007, 3, 11)},
		{2009, 3, form(api.FormFrom, 0, 8), date(2009, 3, 8)},
		{2010, 3, form(api.FormFrom, 0, 8), date(2010, 3, 14)},
		{2020, 4, form(api.FormFrom, 3, 30), date(2020, 5, 6)},
		{2020, 12, form(api.FormFrom, 5, 31), date(2021, 1, 1)},
		{2020, 12, form(api.FormFrom, 4, 31), date(2020, 12, 31)},
		{1901, 9, form(api.FormTo, 1, 25), date(1901, 9, 23)},
		{2020, 3, form(api.FormTo, 0, 1), date(2020, 3, 1)},
		{2020, 3, form(api.FormTo, 1, 1), date(2020, 2, 24)},
		{2020, 1, form(api.FormTo, 4, 1), date(2019, 12, 26)},
		{2020, 2, form(api.FormDay, 0, 29), date(2020, 2, 29)},
		{2020, 1, form(api.FormDay, 0, 1), date(2020, 1, 1)},
		{api.MinYear, 1, form(api.FormTo, 1, 1), date(1, 1, 1)},
		{api.MaxYear, 12, form(api.FormFrom, 5, 31), date(9999, 12, 31)},
	} {
		if d, e := civil.On(c.year, c.month, c.form); d != c.want || e != api.OK {
			t.Errorf("On(%d, %d, %v) = %v, %d; want %v", c.year, c.month, c.form, d, e, c.want)
		}
	}
}

// slowOn goes through the days one by one, by another calendar.
func slowOn(year, month int, f api.Form) (api.Date, api.Errno) {
	last := time.Date(year, time.Month(month)+1, 0, 0, 0, 0, 0, time.UTC).Day()
	n, step := f.N, 1
	if f.Kind == api.FormLast {
		n, step = last, -1
	} else if f.Kind == api.FormTo {
		step = -1
	}
	if n > last {
		return api.Date{}, api.ErrRange
	}
	at := time.Date(year, time.Month(month), n, 0, 0, 0, 0, time.UTC)
	for f.Kind != api.FormDay && int(at.Weekday()) != f.Weekday {
		at = at.AddDate(0, 0, step)
	}
	if at.Year() < api.MinYear || at.Year() > api.MaxYear {
		return api.Date{}, api.ErrRange
	}
	return date(at.Year(), int(at.Month()), at.Day()), api.OK
}

// formsOf a kind that may stand in a month of 31 days.
func formsOf(kind int) []api.Form {
	var forms []api.Form
	for weekday := range 7 {
		if kind == api.FormLast {
			forms = append(forms, form(kind, weekday, 0))
			continue
		}
		if kind == api.FormDay && weekday > 0 {
			continue
		}
		for n := 1; n <= 31; n++ {
			forms = append(forms, form(kind, weekday, n))
		}
	}
	return forms
}

// A2: all forms in all months of years at the ends, and of leap and other years.
func TestOnAllForms(t *testing.T) {
	for _, year := range []int{1, 2, 4, 1900, 2000, 2001, 2020, 2100, 9998, 9999} {
		for month := 1; month <= 12; month++ {
			for kind := api.FormDay; kind <= api.FormTo; kind++ {
				for _, f := range formsOf(kind) {
					d, e := civil.On(year, month, f)
					want, wantErrno := slowOn(year, month, f)
					if d != want || e != wantErrno {
						t.Errorf("On(%d, %d, %v) = %v, %d; want %v, %d", year, month, f, d, e, want, wantErrno)
					}
				}
			}
		}
	}
}

// A2, P1: each error of On, and which one comes where several apply.
func TestOnErrors(t *testing.T) {
	for _, c := range []struct {
		year, month int
		form        api.Form
		want        api.Errno
	}{
		{0, 1, form(api.FormDay, 0, 1), api.ErrRange},
		{10000, 1, form(api.FormDay, 0, 1), api.ErrRange},
		{math.MinInt, 1, form(api.FormDay, 0, 1), api.ErrRange},
		{math.MaxInt, 1, form(api.FormDay, 0, 1), api.ErrRange},
		{2020, 0, form(api.FormDay, 0, 1), api.ErrRange},
		{2020, 13, form(api.FormDay, 0, 1), api.ErrRange},
		{2020, math.MinInt, form(api.FormDay, 0, 1), api.ErrRange},
		{2020, math.MaxInt, form(api.FormDay, 0, 1), api.ErrRange},
		{0, 1, form(0, 0, 1), api.ErrRange},
		{2020, 13, form(5, 0, 1), api.ErrRange},
		{2020, 1, form(0, 0, 1), api.ErrKind},
		{2020, 1, form(5, 0, 1), api.ErrKind},
		{2020, 1, form(math.MinInt, 0, 1), api.ErrKind},
		{2020, 1, form(math.MaxInt, 0, 1), api.ErrKind},
		{2020, 1, form(-1, 7, 1), api.ErrKind},
		{2020, 1, form(5, 0, 32), api.ErrKind},
		{2020, 1, form(api.FormDay, 1, 1), api.ErrRange},
		{2020, 1, form(api.FormDay, -1, 1), api.ErrRange},
		{2020, 1, form(api.FormLast, 7, 0), api.ErrRange},
		{2020, 1, form(api.FormFrom, -1, 1), api.ErrRange},
		{2020, 1, form(api.FormTo, 7, 1), api.ErrRange},
		{2020, 1, form(api.FormTo, math.MinInt, 1), api.ErrRange},
		{2020, 1, form(api.FormFrom, math.MaxInt, 1), api.ErrRange},
		{2020, 1, form(api.FormLast, 0, 1), api.ErrRange},
		{2020, 1, form(api.FormLast, 0, -1), api.ErrRange},
		{2020, 1, form(api.FormDay, 0, 0), api.ErrRange},
		{2020, 1, form(api.FormDay, 0, 32), api.ErrRange},
		{2021, 2, form(api.FormDay, 0, 29), api.ErrRange},
		{2021, 2, form(api.FormFrom, 0, 29), api.ErrRange},
		{2021, 4, form(api.FormTo, 0, 31), api.ErrRange},
		{2020, 1, form(api.FormFrom, 0, 0), api.ErrRange},
		{2020, 1, form(api.FormTo, 0, math.MinInt), api.ErrRange},
		{2020, 1, form(api.FormFrom, 0, math.MaxInt), api.ErrRange},
		{api.MinYear, 1, form(api.FormTo, 0, 1), api.ErrRange},
		{api.MaxYear, 12, form(api.FormFrom, 6, 31), api.ErrRange},
	} {
		if d, e := civil.On(c.year, c.month, c.form); d != (api.Date{}) || e != c.want {
			t.Errorf("On(%d, %d, %v) = %v, %d; want nothing, %d", c.year, c.month, c.form, d, e, c.want)
		}
	}
}

// P3: what was asked in between changes no answer.
func TestAnswersStay(t *testing.T) {
	ask := func() [3]any {
		n, _ := civil.Days(date(2020, 3, 29))
		d, _ := civil.Of(-25509)
		o, _ := civil.On(2020, 3, form(api.FormLast, 0, 0))
		return [3]any{n, d, o}
	}
	first := ask()
	for n := -1000; n < 1000; n++ {
		d, _ := civil.Of(n)
		civil.Days(d)
		civil.On(n, n%14, form(n%6, n%8, n%33))
		if again := ask(); again != first {
			t.Fatalf("%v, and later %v", first, again)
		}
	}
}

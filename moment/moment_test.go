package moment_test

import (
	"math"
	"testing"

	"dateline/api"
	"dateline/civil"
	"dateline/moment"
)

func TestYears(t *testing.T) {
	first, _ := civil.Days(api.Date{Year: api.MinYear, Month: 1, Day: 1})
	last, _ := civil.Days(api.Date{Year: api.MaxYear, Month: 12, Day: 31})
	if moment.First != first*api.DayTime || moment.Last != (last+1)*api.DayTime-1 {
		t.Errorf("times are from %d to %d", moment.First, moment.Last)
	}
	for _, c := range []struct {
		at   int
		want bool
	}{
		{math.MinInt, false}, {moment.First - 1, false}, {moment.First, true}, {-1, true}, {0, true}, {moment.Last, true}, {moment.Last + 1, false}, {math.MaxInt, false},
	} {
		if got := moment.IsInYears(c.at); got != c.want {
			t.Errorf("IsInYears(%d) = %v", c.at, got)
		}
	}
}

func TestParts(t *testing.T) {
	for _, c := range []struct{ at, days, second int }{
		{0, 0, 0},
		{1, 0, 1},
		{-1, -1, 86399},
		{86399, 0, 86399},
		{86400, 1, 0},
		{-86399, -1, 1},
		{-86400, -1, 0},
		{-86401, -2, 86399},
		{moment.First, -719162, 0},
		{moment.First - 1, -719163, 86399},
		{moment.Last, 2932896, 86399},
	} {
		if days, second := moment.Parts(c.at); days != c.days || second != c.second {
			t.Errorf("Parts(%d) = %d, %d; want %d, %d", c.at, days, second, c.days, c.second)
		}
	}
}

func TestLocal(t *testing.T) {
	a, b, c := api.Local{Name: "A"}, api.Local{Name: "B"}, api.Local{Name: "C"}
	for _, x := range []struct {
		changes []api.Change
		at      int
		want    api.Local
	}{
		{nil, 0, a},
		{[]api.Change{{At: 5, Local: b}}, 4, a},
		{[]api.Change{{At: 5, Local: b}}, 5, b},
		{[]api.Change{{At: 5, Local: b}, {At: 6, Local: c}, {At: 9, Local: a}}, 5, b},
		{[]api.Change{{At: 5, Local: b}, {At: 6, Local: c}, {At: 9, Local: a}}, 6, c},
		{[]api.Change{{At: 5, Local: b}, {At: 6, Local: c}, {At: 9, Local: a}}, 8, c},
		{[]api.Change{{At: 5, Local: b}, {At: 6, Local: c}, {At: 9, Local: a}}, 100, a},
	} {
		if got := moment.Local(api.Table{First: a, Changes: x.changes}, x.at); got != x.want {
			t.Errorf("Local(%v, %d) = %v; want %v", x.changes, x.at, got, x.want)
		}
	}
}

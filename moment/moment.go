// Package moment: times, which of them there are, and how it is then.
package moment

import (
	"sort"

	"dateline/api"
)

// The first second of MinYear, and the last one of MaxYear.
const (
	First = -62135596800
	Last  = 253402300799
)

// IsInYears tells whether a time is in a year from MinYear to MaxYear.
func IsInYears(at int) bool { return at >= First && at <= Last }

// Parts of a time: how many days it is behind the first of January 1970, and which second of its day.
func Parts(at int) (days, second int) {
	days, second = at/api.DayTime, at%api.DayTime
	// Division goes towards 0, but days begin ahead of their seconds.
	if second < 0 {
		return days - 1, second + api.DayTime
	}
	return days, second
}

// Local at a time, by a table of which nothing is wrong.
func Local(t api.Table, at int) api.Local {
	later := sort.Search(len(t.Changes), func(i int) bool { return t.Changes[i].At > at })
	if later == 0 {
		return t.First
	}
	return t.Changes[later-1].Local
}

package zone

import (
	"iter"
	"slices"

	"dateline/api"
	"dateline/civil"
	"dateline/rule"
	"dateline/seek"
)

// eras of zones, zone by zone.
func eras(zones ...api.Zone) iter.Seq[api.Era] {
	return func(yield func(e api.Era) bool) {
		for _, z := range zones {
			for _, e := range z.Eras {
				if !yield(e) {
					return
				}
			}
		}
	}
}

// ends of a zone's eras, but the last one.
func ends(z api.Zone) []int {
	var l []int
	for e := range eras(z) {
		if !e.Open {
			l = append(l, endOf(e))
		}
	}
	return l
}

// endOf an era that is not Open, by universal time; it may be out of the years that there are.
func endOf(e api.Era) int {
	days, _ := civil.Days(e.Until.Date)
	at := days*api.DayTime + e.Until.At
	if e.Until.Clock == api.ClockStandard {
		at -= e.Shift
	}
	return at
}

// savedAt a time in an era: what, and the letter.
func savedAt(rules []api.Rule, e api.Era, at int) api.Time {
	if e.Rules == "" {
		return api.Time{Save: e.Save}
	}
	times, _ := rule.Times(rules, e.Rules, e.Shift)
	// If none is as early, it is the zero value: nothing is saved, and there is no letter.
	last, _ := seek.Last(slices.Values(times), func(t api.Time) bool { return t.At <= at })
	return last
}

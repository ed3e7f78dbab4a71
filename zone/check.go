package zone

import (
	"iter"
	"slices"

	"dateline/api"
	"dateline/rule"
	"dateline/seek"
)

func checkTwice(s api.Source) api.Errno {
	seen := map[string]struct{}{}
	for name := range names(s) {
		if _, ok := seen[name]; ok {
			return api.ErrTwice
		}
		seen[name] = struct{}{}
	}
	return api.OK
}

// names by which zones are found.
func names(s api.Source) iter.Seq[string] {
	return func(yield func(name string) bool) {
		for _, z := range s.Zones {
			if !yield(z.Name) {
				return
			}
		}
		for _, l := range s.Links {
			if !yield(l.Name) {
				return
			}
		}
	}
}

func checkThere(s api.Source) api.Errno {
	isAstray := func(l api.Link) bool {
		return !slices.ContainsFunc(s.Zones, func(z api.Zone) bool { return z.Name == l.To })
	}
	lacksRules := func(e api.Era) bool {
		return e.Rules != "" && !slices.ContainsFunc(s.Rules, func(r api.Rule) bool { return r.Name == e.Rules })
	}
	if seek.Has(slices.Values(s.Links), isAstray) || seek.Has(eras(s.Zones...), lacksRules) {
		return api.ErrNone
	}
	return api.OK
}

// checkTimes asks once of each name: what is wrong with turns does not hang on the shift, if that may stand there.
func checkTimes(s api.Source) api.Errno {
	asked := map[string]struct{}{"": {}}
	for e := range eras(s.Zones...) {
		if _, ok := asked[e.Rules]; ok {
			continue
		}
		asked[e.Rules] = struct{}{}
		if _, errno := rule.Times(s.Rules, e.Rules, e.Shift); errno != api.OK {
			return errno
		}
	}
	return api.OK
}

func checkEnds(s api.Source) api.Errno {
	if seek.Has(slices.Values(s.Zones), func(z api.Zone) bool { return !isRising(ends(z)) }) {
		return api.ErrState
	}
	return api.OK
}

func isRising(l []int) bool {
	for i := 1; i < len(l); i++ {
		if l[i] <= l[i-1] {
			return false
		}
	}
	return true
}

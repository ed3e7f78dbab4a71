package source

import (
	"cmp"

	"dateline/api"
	"dateline/civil"
	"dateline/signs"
)

// commonYear has no day that another year of a rule has not.
const commonYear = 2001

func fitsLimits(s api.Source) bool {
	if len(s.Rules) > api.MaxRules || len(s.Zones) > api.MaxZones || len(s.Links) > api.MaxLinks {
		return false
	}
	for _, z := range s.Zones {
		if len(z.Eras) > api.MaxEras {
			return false
		}
	}
	return true
}

// firstWrong of some things: what is wrong of the first of them of which something is.
func firstWrong[T any](things []T, check func(thing T) api.Errno) api.Errno {
	for _, each := range things {
		if errno := check(each); errno != api.OK {
			return errno
		}
	}
	return api.OK
}

func checkRule(r api.Rule) api.Errno {
	_, day := civil.On(commonYear, r.Month, r.Form)
	return cmp.Or(
		unless(signs.IsName(r.Name) && signs.IsLetters(r.Letter), api.ErrForm),
		unless(isWithin(r.From, api.MinRule, r.To) && r.To <= api.MaxRule, api.ErrRange),
		unless(isWithin(r.Month, 1, 12), api.ErrRange),
		day,
		unless(isWithin(r.At, 0, api.MaxTime), api.ErrRange),
		unless(isWithin(r.Clock, api.ClockWall, api.ClockUniversal), api.ErrKind),
		unless(isWithin(r.Save, 0, api.MaxSave), api.ErrRange),
	)
}

func checkZone(z api.Zone) api.Errno {
	if !signs.IsName(z.Name) || len(z.Eras) == 0 {
		return api.ErrForm
	}
	last := len(z.Eras) - 1
	return cmp.Or(
		firstWrong(z.Eras[:last], func(e api.Era) api.Errno { return checkEra(e, false) }),
		checkEra(z.Eras[last], true),
	)
}

func checkEra(e api.Era, isLast bool) api.Errno {
	return cmp.Or(
		unless((e.Rules == "" || signs.IsName(e.Rules)) && signs.IsFormat(e.Format), api.ErrForm),
		unless(isWithin(e.Shift, -api.MaxShift, api.MaxShift), api.ErrRange),
		unless(isWithin(e.Save, 0, api.MaxSave), api.ErrRange),
		unless(e.Rules == "" || e.Save == 0, api.ErrForm),
		unless(e.Open == isLast, api.ErrState),
		checkEnd(e),
	)
}

func checkEnd(e api.Era) api.Errno {
	if e.Open {
		return unless(e.Until == api.Until{}, api.ErrForm)
	}
	_, date := civil.Days(e.Until.Date)
	return cmp.Or(
		date,
		unless(isWithin(e.Until.At, 0, api.MaxTime), api.ErrRange),
		unless(e.Until.Clock == api.ClockStandard || e.Until.Clock == api.ClockUniversal, api.ErrKind),
	)
}

func checkLink(l api.Link) api.Errno {
	return unless(signs.IsName(l.To) && signs.IsName(l.Name), api.ErrForm)
}

func isWithin(n, least, most int) bool { return n >= least && n <= most }

// unless something holds, an error.
func unless(holds bool, errno api.Errno) api.Errno {
	if holds {
		return api.OK
	}
	return errno
}

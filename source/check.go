package source

import (
	"cmp"

	"dateline/api"
	"dateline/civil"
	"dateline/fault"
	"dateline/signs"
)

// commonYear has no day that another year of a rule has not.
const commonYear = 2001

func fitsLimits(s api.Source) bool {
	if len(s.Rules) > api.MaxRules || len(s.Zones) > api.MaxZones || len(s.Links) > api.MaxLinks {
		return false
	}
	for _, z := range s.Zones {
		if len(z.Eras) > api.MaxEras {
			return false
		}
	}
	return true
}

func checkRule(r api.Rule) api.Errno {
	_, day := civil.On(commonYear, r.Month, r.Form)
	return cmp.Or(
		fault.Unless(signs.IsName(r.Name) && signs.IsLetters(r.Letter), api.ErrForm),
		fault.Unless(isWithin(r.From, api.MinRule, r.To) && r.To <= api.MaxRule, api.ErrRange),
		fault.Unless(isWithin(r.Month, 1, 12), api.ErrRange),
		day,
		fault.Unless(isWithin(r.At, 0, api.MaxTime), api.ErrRange),
		fault.Unless(isWithin(r.Clock, api.ClockWall, api.ClockUniversal), api.ErrKind),
		fault.Unless(isWithin(r.Save, 0, api.MaxSave), api.ErrRange),
	)
}

func checkZone(z api.Zone) api.Errno {
	if !signs.IsName(z.Name) || len(z.Eras) == 0 {
		return api.ErrForm
	}
	last := len(z.Eras) - 1
	return cmp.Or(
		fault.First(z.Eras[:last], func(e api.Era) api.Errno { return checkEra(e, false) }),
		checkEra(z.Eras[last], true),
	)
}

func checkEra(e api.Era, isLast bool) api.Errno {
	return cmp.Or(
		fault.Unless((e.Rules == "" || signs.IsName(e.Rules)) && signs.IsFormat(e.Format), api.ErrForm),
		fault.Unless(isWithin(e.Shift, -api.MaxShift, api.MaxShift), api.ErrRange),
		fault.Unless(isWithin(e.Save, 0, api.MaxSave), api.ErrRange),
		fault.Unless(e.Rules == "" || e.Save == 0, api.ErrForm),
		fault.Unless(e.Open == isLast, api.ErrState),
		checkEnd(e),
	)
}

func checkEnd(e api.Era) api.Errno {
	if e.Open {
		return fault.Unless(e.Until == api.Until{}, api.ErrForm)
	}
	_, date := civil.Days(e.Until.Date)
	return cmp.Or(
		date,
		fault.Unless(isWithin(e.Until.At, 0, api.MaxTime), api.ErrRange),
		fault.Unless(e.Until.Clock == api.ClockStandard || e.Until.Clock == api.ClockUniversal, api.ErrKind),
	)
}

func checkLink(l api.Link) api.Errno {
	return fault.Unless(signs.IsName(l.To) && signs.IsName(l.Name), api.ErrForm)
}

func isWithin(n, least, most int) bool { return n >= least && n <= most }

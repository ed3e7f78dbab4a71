package table

import (
	"slices"

	"dateline/api"
	"dateline/era"
	"dateline/moment"
	"dateline/rule"
)

// maker of a table: the table as far as it is made, from the first time on, and the rules of which it is made.
type maker struct {
	api.Table
	rules []api.Rule
}

// zone: its eras, each from the end of the one ahead on. Ends may be out of the years that there are: what is behind these is cut off here, what is ahead of them by the first of times.
func (m *maker) zone(z api.Zone, ends []int) {
	from := moment.First
	for i, e := range z.Eras {
		to := moment.Last + 1
		if i < len(ends) {
			to = min(to, ends[i])
		}
		m.era(e, from, to)
		from = to
	}
}

// era: what there is of it from one time on, up to ahead of another.
func (m *maker) era(e api.Era, from, to int) {
	times := m.times(e)
	for i, t := range times {
		begin, end := max(from, t.At), to
		if i+1 < len(times) {
			end = min(to, times[i+1].At)
		}
		if begin < end {
			m.put(begin, era.Local(e, t))
		}
	}
}

// times at which something else is saved, by an era's clocks; ahead of them, from the first time on, what is saved without Rules (with them, it is nothing).
func (m *maker) times(e api.Era) []api.Time {
	times := []api.Time{{At: moment.First, Save: e.Save}}
	if e.Rules == "" {
		return times
	}
	turned, _ := rule.Times(m.rules, e.Rules, e.Shift)
	return append(times, turned...)
}

// put how it is from a time on that is behind all that was put.
func (m *maker) put(at int, l api.Local) {
	if at == moment.First {
		m.First = l
	} else if l != m.last() {
		m.Changes = append(m.Changes, api.Change{At: at, Local: l})
	}
}

// last that was put.
func (m *maker) last() api.Local {
	if len(m.Changes) == 0 {
		return m.First
	}
	return m.Changes[len(m.Changes)-1].Local
}

func (m *maker) check() api.Errno {
	isNameless := func(c api.Change) bool { return !isNameOfTime(c.Local.Name) }
	if !isNameOfTime(m.First.Name) || slices.ContainsFunc(m.Changes, isNameless) {
		return api.ErrForm
	}
	if len(m.Changes) > api.MaxChanges {
		return api.ErrMany
	}
	return api.OK
}

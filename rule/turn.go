package rule

import (
	"cmp"
	"iter"
	"slices"

	"dateline/api"
	"dateline/civil"
	"dateline/seek"
)

// leastApart: turns so far apart follow each other by universal time too, whatever shift there is and whatever is saved.
const leastApart = 2 * api.DayTime

// longAgo is ahead of all turns by more than leastApart.
const longAgo = -1 << 40

// turn of clocks: when, as it stands in its rule, by a kind of clock; what is saved from then on, and the letter.
type turn struct {
	stands int
	clock  int
	save   int
	letter string
}

// step from one turn to the next.
type step struct{ from, to turn }

// turns of a name, rule by rule and year by year.
func turns(l []api.Rule, name string) iter.Seq[turn] {
	return func(yield func(t turn) bool) {
		for _, r := range l {
			if r.Name != name {
				continue
			}
			for year := r.From; year <= r.To; year++ {
				if !yield(turnIn(r, year)) {
					return
				}
			}
		}
	}
}

// turnIn a year of a rule of which nothing is wrong: so there is such a day.
func turnIn(r api.Rule, year int) turn {
	date, _ := civil.On(year, r.Month, r.Form)
	days, _ := civil.Days(date)
	return turn{stands: days*api.DayTime + r.At, clock: r.Clock, save: r.Save, letter: r.Letter}
}

func inOrder(all iter.Seq[turn]) []turn {
	return slices.SortedFunc(all, func(a, b turn) int { return cmp.Compare(a.stands, b.stands) })
}

// steps of turns in order. To the first it is a step from one that was long ago, and saves nothing.
func steps(ordered []turn) iter.Seq[step] {
	return func(yield func(s step) bool) {
		from := turn{stands: longAgo}
		for _, to := range ordered {
			if !yield(step{from, to}) {
				return
			}
			from = to
		}
	}
}

func checkTurns(ordered []turn) api.Errno {
	switch {
	case len(ordered) == 0:
		// Each rule has a year, so none has that name.
		return api.ErrNone
	case seek.Has(steps(ordered), func(s step) bool { return s.to.stands-s.from.stands < leastApart }):
		return api.ErrState
	case len(ordered) > api.MaxChanges:
		return api.ErrMany
	}
	return api.OK
}

// time of the turn that is stepped to.
func (s step) time(shift int) api.Time {
	at := s.to.stands
	if s.to.clock != api.ClockUniversal {
		at -= shift
	}
	if s.to.clock == api.ClockWall {
		at -= s.from.save
	}
	return api.Time{At: at, Save: s.to.save, Letter: s.to.letter}
}

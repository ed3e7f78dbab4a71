package source

import (
	"dateline/api"
	"dateline/fault"
	"dateline/signs"
)

// row: a line, and which of its fields are not read yet.
type row struct {
	number int
	fields []string
}

func (r *row) require(holds bool) { fault.Require(holds, r.number, api.ErrForm) }

// read the next field, which must be there, and must be over then.
func (r *row) read(says func(f *field)) {
	r.require(len(r.fields) > 0)
	f := &field{number: r.number, rest: r.fields[0]}
	r.fields = r.fields[1:]
	says(f)
	f.require(f.rest == "")
}

// end: there is no other field.
func (r *row) end() { r.require(len(r.fields) == 0) }

func (r *row) word() string {
	var word string
	r.read(func(f *field) { word = f.take(signs.IsLetter) })
	return word
}

func (r *row) name() string {
	var name string
	r.read(func(f *field) { name = f.name() })
	return name
}

func (r *row) rule() api.Rule {
	kinds := map[string]int{
		"":  api.ClockWall,
		"w": api.ClockWall,
		"s": api.ClockStandard,
		"u": api.ClockUniversal,
	}
	rule := api.Rule{Name: r.name()}
	r.read(func(f *field) { rule.From = f.year() })
	r.read(func(f *field) { rule.To = f.lastYear(rule.From) })
	r.read(func(f *field) { rule.Month = f.month() })
	r.read(func(f *field) { rule.Form = f.form() })
	r.read(func(f *field) { rule.At, rule.Clock = f.time(), f.clock(kinds) })
	r.read(func(f *field) { rule.Save = f.time() })
	r.read(func(f *field) { rule.Letter = f.letter() })
	r.end()
	return rule
}

func (r *row) link() api.Link {
	link := api.Link{To: r.name(), Name: r.name()}
	r.end()
	return link
}

func (r *row) era() api.Era {
	var era api.Era
	r.read(func(f *field) { era.Shift = f.shift() })
	r.read(func(f *field) { era.Rules, era.Save = f.rules() })
	r.read(func(f *field) { era.Format = f.format() })
	era.Open = len(r.fields) == 0
	if !era.Open {
		era.Until = r.until()
	}
	r.end()
	return era
}

func (r *row) until() api.Until {
	kinds := map[string]int{
		"":  api.ClockStandard,
		"s": api.ClockStandard,
		"u": api.ClockUniversal,
	}
	var until api.Until
	r.read(func(f *field) { until.Date.Year = f.year() })
	r.read(func(f *field) { until.Date.Month = f.month() })
	r.read(func(f *field) { until.Date.Day = f.day() })
	r.read(func(f *field) { until.At, until.Clock = f.time(), f.clock(kinds) })
	return until
}

package source_test

import (
	"math"
	"reflect"
	"strings"
	"testing"

	"dateline/api"
	"dateline/source"
)

// change of a source, and the error that it leads to.
type change struct {
	name string
	do   func(s *api.Source)
	want api.Errno
}

func ruleChange(name string, want api.Errno, do func(r *api.Rule)) change {
	return change{"rule: " + name, func(s *api.Source) { do(&s.Rules[1]) }, want}
}

// eraChange of one that has an end.
func eraChange(name string, want api.Errno, do func(e *api.Era)) change {
	return change{"era: " + name, func(s *api.Source) { do(&s.Zones[0].Eras[1]) }, want}
}

// lastChange: of the last era.
func lastChange(name string, want api.Errno, do func(e *api.Era)) change {
	return change{"last era: " + name, func(s *api.Source) { do(&s.Zones[0].Eras[2]) }, want}
}

var long = strings.Repeat("x", 25)

// ruleChanges in the order in which C3 names what is wrong. Those of one list can be made at once.
func ruleChanges() [][]change {
	return [][]change{
		{
			ruleChange("no name", api.ErrForm, func(r *api.Rule) { r.Name = "" }),
			ruleChange("a long name", api.ErrForm, func(r *api.Rule) { r.Name = long }),
			ruleChange("a digit ahead", api.ErrForm, func(r *api.Rule) { r.Name = "9a" }),
			ruleChange("a dash for a name", api.ErrForm, func(r *api.Rule) { r.Name = "-" }),
			ruleChange("a blank in a name", api.ErrForm, func(r *api.Rule) { r.Name = "a b" }),
			ruleChange("any byte in a name", api.ErrForm, func(r *api.Rule) { r.Name = "a\xff" }),
			ruleChange("a nought in a name", api.ErrForm, func(r *api.Rule) { r.Name = "a\x00" }),
			ruleChange("letters that are none", api.ErrForm, func(r *api.Rule) { r.Letter = "S9" }),
			ruleChange("a dash for letters", api.ErrForm, func(r *api.Rule) { r.Letter = "-" }),
			ruleChange("long letters", api.ErrForm, func(r *api.Rule) { r.Letter = long }),
		},
		{
			ruleChange("From too early", api.ErrRange, func(r *api.Rule) { r.From = 1899 }),
			ruleChange("From behind To", api.ErrRange, func(r *api.Rule) { r.From = r.To + 1 }),
			ruleChange("To too late", api.ErrRange, func(r *api.Rule) { r.To = 2101 }),
			ruleChange("To ahead of From", api.ErrRange, func(r *api.Rule) { r.To = r.From - 1 }),
			ruleChange("the least From", api.ErrRange, func(r *api.Rule) { r.From = math.MinInt }),
			ruleChange("the greatest To", api.ErrRange, func(r *api.Rule) { r.To = math.MaxInt }),
		},
		{
			ruleChange("month 0", api.ErrRange, func(r *api.Rule) { r.Month = 0 }),
			ruleChange("month 13", api.ErrRange, func(r *api.Rule) { r.Month = 13 }),
			ruleChange("month below 0", api.ErrRange, func(r *api.Rule) { r.Month = -1 }),
		},
		{
			ruleChange("kind 0", api.ErrKind, func(r *api.Rule) { r.Form.Kind = 0 }),
			ruleChange("kind 5", api.ErrKind, func(r *api.Rule) { r.Form.Kind = 5 }),
		},
		{
			ruleChange("weekday 7", api.ErrRange, func(r *api.Rule) { r.Form.Weekday = 7 }),
			ruleChange("weekday below 0", api.ErrRange, func(r *api.Rule) { r.Form.Weekday = -1 }),
			ruleChange("day 0", api.ErrRange, func(r *api.Rule) { r.Form.N = 0 }),
			ruleChange("day 32", api.ErrRange, func(r *api.Rule) { r.Form.N = 32 }),
			ruleChange("day 31 of June", api.ErrRange, func(r *api.Rule) { r.Month, r.Form.N = 6, 31 }),
			ruleChange("a leap day", api.ErrRange, func(r *api.Rule) { r.From, r.To, r.Month, r.Form.N = 2000, 2000, 2, 29 }),
			ruleChange("a weekday and a day", api.ErrRange, func(r *api.Rule) { r.Form = api.Form{Kind: api.FormDay, Weekday: 1, N: 1} }),
			ruleChange("the last, and a day", api.ErrRange, func(r *api.Rule) { r.Form = api.Form{Kind: api.FormLast, N: 1} }),
		},
		{
			ruleChange("At below 0", api.ErrRange, func(r *api.Rule) { r.At = -1 }),
			ruleChange("At too great", api.ErrRange, func(r *api.Rule) { r.At = 172801 }),
		},
		{
			ruleChange("clock 0", api.ErrKind, func(r *api.Rule) { r.Clock = 0 }),
			ruleChange("clock 4", api.ErrKind, func(r *api.Rule) { r.Clock = 4 }),
		},
		{
			ruleChange("Save below 0", api.ErrRange, func(r *api.Rule) { r.Save = -1 }),
			ruleChange("Save too great", api.ErrRange, func(r *api.Rule) { r.Save = 10801 }),
		},
	}
}

// eraChanges in the order in which C3 names what is wrong.
func eraChanges() [][]change {
	return [][]change{
		{
			eraChange("rules that are no name", api.ErrForm, func(e *api.Era) { e.Rules = "9" }),
			eraChange("a dash for rules", api.ErrForm, func(e *api.Era) { e.Rules = "-" }),
			eraChange("long rules", api.ErrForm, func(e *api.Era) { e.Rules = long }),
			eraChange("no format", api.ErrForm, func(e *api.Era) { e.Format = "" }),
			eraChange("a long format", api.ErrForm, func(e *api.Era) { e.Format = long }),
			eraChange("a long format in parts", api.ErrForm, func(e *api.Era) { e.Format = long[:12] + "%s" + long[:11] }),
			eraChange("a long format with a stroke", api.ErrForm, func(e *api.Era) { e.Format = long[:12] + "/" + long[:12] }),
			eraChange("a stroke ahead", api.ErrForm, func(e *api.Era) { e.Format = "/a" }),
			eraChange("a stroke behind", api.ErrForm, func(e *api.Era) { e.Format = "a/" }),
			eraChange("two strokes", api.ErrForm, func(e *api.Era) { e.Format = "a/b/c" }),
			eraChange("two places", api.ErrForm, func(e *api.Era) { e.Format = "%sa%s" }),
			eraChange("a place and a stroke", api.ErrForm, func(e *api.Era) { e.Format = "a%s/b" }),
			eraChange("half a place", api.ErrForm, func(e *api.Era) { e.Format = "a%" }),
			eraChange("a blank in a format", api.ErrForm, func(e *api.Era) { e.Format = "a b" }),
		},
		{
			eraChange("Shift too great", api.ErrRange, func(e *api.Era) { e.Shift = 64801 }),
			eraChange("Shift too small", api.ErrRange, func(e *api.Era) { e.Shift = -64801 }),
			eraChange("the least Shift", api.ErrRange, func(e *api.Era) { e.Shift = math.MinInt }),
			eraChange("Save below 0", api.ErrRange, func(e *api.Era) { e.Save = -1 }),
			eraChange("Save too great", api.ErrRange, func(e *api.Era) { e.Save = 10801 }),
		},
		{
			eraChange("Rules and a Save", api.ErrForm, func(e *api.Era) { e.Rules, e.Save = "eu", 1 }),
		},
		{
			eraChange("Open ahead of the last", api.ErrState, func(e *api.Era) { e.Open = true }),
		},
		{
			eraChange("no such date", api.ErrRange, func(e *api.Era) { e.Until.Date.Day = 32 }),
			eraChange("no date", api.ErrRange, func(e *api.Era) { e.Until.Date = api.Date{} }),
			eraChange("no leap day", api.ErrRange, func(e *api.Era) { e.Until.Date = api.Date{Year: 2001, Month: 2, Day: 29} }),
			eraChange("a late year", api.ErrRange, func(e *api.Era) { e.Until.Date.Year = 10000 }),
			eraChange("At below 0", api.ErrRange, func(e *api.Era) { e.Until.At = -1 }),
			eraChange("At too great", api.ErrRange, func(e *api.Era) { e.Until.At = 172801 }),
		},
		{
			eraChange("by clocks on walls", api.ErrKind, func(e *api.Era) { e.Until.Clock = api.ClockWall }),
			eraChange("clock 0", api.ErrKind, func(e *api.Era) { e.Until.Clock = 0 }),
			eraChange("clock 4", api.ErrKind, func(e *api.Era) { e.Until.Clock = 4 }),
		},
	}
}

func lastChanges() [][]change {
	return [][]change{
		{
			lastChange("Shift too great", api.ErrRange, func(e *api.Era) { e.Shift = 64801 }),
		},
		{
			lastChange("Rules and a Save", api.ErrForm, func(e *api.Era) { e.Rules, e.Save = "eu", 1 }),
		},
		{
			lastChange("the last, and not Open", api.ErrState, func(e *api.Era) { e.Open = false }),
		},
		{
			lastChange("Until at a time", api.ErrForm, func(e *api.Era) { e.Until.At = 1 }),
			lastChange("Until by a clock", api.ErrForm, func(e *api.Era) { e.Until.Clock = api.ClockStandard }),
			lastChange("Until on a day", api.ErrForm, func(e *api.Era) { e.Until.Date.Day = 1 }),
		},
	}
}

// allChanges, in the order in which things are gone through.
func allChanges() [][]change {
	var all [][]change
	all = append(all, ruleChanges()...)
	all = append(all, []change{
		{"zone: no name", func(s *api.Source) { s.Zones[0].Name = "" }, api.ErrForm},
		{"zone: a long name", func(s *api.Source) { s.Zones[0].Name = long }, api.ErrForm},
		{"zone: a name that is none", func(s *api.Source) { s.Zones[0].Name = "_a" }, api.ErrForm},
	})
	all = append(all, eraChanges()...)
	all = append(all, lastChanges()...)
	all = append(all, []change{
		{"zone: no eras", func(s *api.Source) { s.Zones[1].Eras = nil }, api.ErrForm},
		{"zone: an empty list of eras", func(s *api.Source) { s.Zones[1].Eras = []api.Era{} }, api.ErrForm},
	})
	return append(all, []change{
		{"link: no To", func(s *api.Source) { s.Links[0].To = "" }, api.ErrForm},
		{"link: no Name", func(s *api.Source) { s.Links[0].Name = "" }, api.ErrForm},
		{"link: a long To", func(s *api.Source) { s.Links[1].To = long }, api.ErrForm},
		{"link: a long Name", func(s *api.Source) { s.Links[1].Name = long }, api.ErrForm},
		{"link: a Name that is none", func(s *api.Source) { s.Links[1].Name = "a%s" }, api.ErrForm},
	})
}

// C3: each thing that is wrong.
func TestCheckErrors(t *testing.T) {
	if e := source.Check(exampleSource()); e != api.OK {
		t.Fatalf("nothing is wrong, but it is %d", e)
	}
	for _, group := range allChanges() {
		for _, c := range group {
			s := exampleSource()
			c.do(&s)
			if e := source.Check(s); e != c.want {
				t.Errorf("%s: %d; want %d", c.name, e, c.want)
			}
		}
	}
}

// C3, P1: where two things are wrong, the one that is named first, or of the thing that comes first, tells.
func TestCheckOrder(t *testing.T) {
	all := allChanges()
	for i, group := range all {
		for _, later := range all[i+1:] {
			for _, first := range group {
				for _, second := range later {
					checkBoth(t, first, second)
				}
			}
		}
	}
}

// checkBoth changes, the second one made first: what a change of the same field undoes is what comes later.
func checkBoth(t *testing.T, first, second change) {
	t.Helper()
	s := exampleSource()
	second.do(&s)
	first.do(&s)
	if e := source.Check(s); e != first.want {
		t.Errorf("%s, and %s: %d; want %d", first.name, second.name, e, first.want)
	}
}

// C3, P1: rule by rule, zone by zone, link by link.
func TestCheckThingByThing(t *testing.T) {
	for _, c := range []change{
		{"rules", func(s *api.Source) { s.Rules[0].Save, s.Rules[1].Name = -1, "" }, api.ErrRange},
		{"rules the other way", func(s *api.Source) { s.Rules[0].Name, s.Rules[1].Save = "", -1 }, api.ErrForm},
		{"the last rule", func(s *api.Source) { s.Rules[2].Clock, s.Zones[0].Name = 0, "" }, api.ErrKind},
		{"zones", func(s *api.Source) { s.Zones[0].Eras[2].Open, s.Zones[1].Name = false, "" }, api.ErrState},
		{"zones the other way", func(s *api.Source) { s.Zones[0].Name, s.Zones[1].Eras[0].Open = "", false }, api.ErrForm},
		{"eras", func(s *api.Source) { s.Zones[0].Eras[0].Until.Clock, s.Zones[0].Eras[1].Format = 0, "" }, api.ErrKind},
		{"the last zone", func(s *api.Source) { s.Zones[1].Eras[0].Shift, s.Links[0].To = 64801, "" }, api.ErrRange},
	} {
		s := exampleSource()
		c.do(&s)
		if e := source.Check(s); e != c.want {
			t.Errorf("%s: %d; want %d", c.name, e, c.want)
		}
	}
}

// C3: how many there are comes ahead of all else.
func TestCheckLimits(t *testing.T) {
	for _, c := range []struct {
		name  string
		grow  func(s *api.Source, n int)
		limit int
	}{
		{"rules", func(s *api.Source, n int) { s.Rules = repeat(s.Rules[0], n) }, 40},
		{"zones", func(s *api.Source, n int) { s.Zones = repeat(s.Zones[0], n) }, 20},
		{"links", func(s *api.Source, n int) { s.Links = repeat(s.Links[0], n) }, 20},
		{"eras", func(s *api.Source, n int) {
			s.Zones[1].Eras = append(repeat(s.Zones[0].Eras[0], n-1), s.Zones[1].Eras[0])
		}, 8},
	} {
		s := exampleSource()
		c.grow(&s, c.limit)
		if e := source.Check(s); e != api.OK {
			t.Errorf("%d %s: %d; want OK", c.limit, c.name, e)
		}
		for _, n := range []int{c.limit + 1, 1 << 20} {
			s = exampleSource()
			s.Rules[0].Name, s.Zones[0].Name, s.Links[0].To = "", "", ""
			c.grow(&s, n)
			if e := source.Check(s); e != api.ErrMany {
				t.Errorf("%d %s: %d; want ErrMany", n, c.name, e)
			}
		}
	}
}

func repeat[T any](x T, n int) []T {
	all := make([]T, n)
	for i := range all {
		all[i] = x
	}
	return all
}

// C3: what is not wrong.
func TestCheckIsOK(t *testing.T) {
	for _, c := range []change{
		{"nothing at all", func(s *api.Source) { *s = api.Source{} }, 0},
		{"empty lists", func(s *api.Source) { *s = api.Source{Rules: []api.Rule{}, Zones: []api.Zone{}, Links: []api.Link{}} }, 0},
		ruleChange("the first year", 0, func(r *api.Rule) { r.From, r.To = 1900, 1900 }),
		ruleChange("the last year", 0, func(r *api.Rule) { r.From, r.To = 2100, 2100 }),
		ruleChange("no letters", 0, func(r *api.Rule) { r.Letter = "" }),
		ruleChange("all letters", 0, func(r *api.Rule) { r.Letter = long[:24] }),
		ruleChange("a whole name", 0, func(r *api.Rule) { r.Name = "a" + strings.Repeat("+", 23) }),
		ruleChange("day 28 of February", 0, func(r *api.Rule) { r.Month, r.Form.N = 2, 28 }),
		ruleChange("beyond December", 0, func(r *api.Rule) { r.Month, r.Form = 12, api.Form{Kind: api.FormFrom, Weekday: 6, N: 31} }),
		ruleChange("ahead of January", 0, func(r *api.Rule) { r.Month, r.Form = 1, api.Form{Kind: api.FormTo, Weekday: 6, N: 1} }),
		ruleChange("the greatest numbers", 0, func(r *api.Rule) { r.At, r.Save = 172800, 10800 }),
		ruleChange("the least numbers", 0, func(r *api.Rule) { r.At, r.Save = 0, 0 }),
		eraChange("the greatest numbers", 0, func(e *api.Era) { e.Shift, e.Rules, e.Save, e.Until.At = 64800, "", 10800, 172800 }),
		eraChange("the least Shift", 0, func(e *api.Era) { e.Shift = -64800 }),
		eraChange("the first date", 0, func(e *api.Era) { e.Until.Date = api.Date{Year: 1, Month: 1, Day: 1} }),
		eraChange("the last date", 0, func(e *api.Era) { e.Until.Date = api.Date{Year: 9999, Month: 12, Day: 31} }),
		eraChange("rules of no such name", 0, func(e *api.Era) { e.Rules = "none" }),
		eraChange("a format of all that there may be", 0, func(e *api.Era) { e.Format = long[:12] + "%s" + long[:10] }),
		{"links twice, and to nothing", func(s *api.Source) { s.Links[0] = api.Link{To: "No", Name: "No"}; s.Links[1] = s.Links[0] }, 0},
		{"zones twice", func(s *api.Source) { s.Zones[1].Name = s.Zones[0].Name }, 0},
		{"rules twice", func(s *api.Source) { s.Rules[1] = s.Rules[0] }, 0},
	} {
		s := exampleSource()
		c.do(&s)
		if e := source.Check(s); e != api.OK {
			t.Errorf("%s: %d; want OK", c.name, e)
		}
	}
}

// P2: Check only reads, the spare room behind lists too.
func TestCheckOnlyReads(t *testing.T) {
	given := func() api.Source {
		s := exampleSource()
		s.Rules = append(s.Rules, api.Rule{Name: "spare"})
		s.Zones[0].Eras = append(s.Zones[0].Eras, api.Era{Format: "spare"})
		s.Links = append(s.Links, api.Link{To: "spare"})
		return s
	}
	whole := given()
	s := whole
	s.Rules, s.Links = s.Rules[:3], s.Links[:2]
	s.Zones = append([]api.Zone{}, s.Zones...)
	s.Zones[0].Eras = s.Zones[0].Eras[:3]
	if e := source.Check(s); e != api.OK {
		t.Errorf("it is %d", e)
	}
	if !reflect.DeepEqual(whole, given()) {
		t.Errorf("Check left %v", whole)
	}
}

// P1, P4: any sources, great names among them.
func TestCheckGreatNames(t *testing.T) {
	great := strings.Repeat("a", 1<<22)
	for _, s := range []api.Source{
		{Rules: []api.Rule{{Name: great}}},
		{Zones: []api.Zone{{Name: great}}},
		{Links: []api.Link{{To: great, Name: great}}},
		{Zones: []api.Zone{{Name: "a", Eras: []api.Era{{Format: strings.Repeat("%s", 1<<22), Open: true}}}}},
	} {
		if e := source.Check(s); e != api.ErrForm {
			t.Errorf("it is %d; want ErrForm", e)
		}
	}
}

package show_test

import (
	"math/rand"
	"reflect"
	"slices"
	"strings"
	"testing"

	"dateline/api"
	"dateline/show"
	"dateline/source"
)

func parsed(t *testing.T, text string) api.Source {
	t.Helper()
	s, n, e := source.Parse(text)
	if n != 0 || e != api.OK {
		t.Fatalf("Parse(%q): %d, %d", text, n, e)
	}
	return s
}

// D1: each part of a line, as it may be written and as it is shown.
func TestShow(t *testing.T) {
	for _, c := range []struct{ text, want string }{
		{"", ""},
		{"Rule a 1999 1999 Jan 01 0 0 -", "Rule a 1999 only Jan 1 0:00 0:00 -\n"},
		{"Rule a 1999 2100 Feb 28 00:00w 0:00 S", "Rule a 1999 max Feb 28 0:00 0:00 S\n"},
		{"Rule a 2100 max Mar lastSun 02:00s 1:00 -", "Rule a 2100 only Mar lastSun 2:00s 1:00 -\n"},
		{"Rule a 1900 2099 Apr Mon>=08 12:34:56u 01:00 X", "Rule a 1900 2099 Apr Mon>=8 12:34:56u 1:00 X\n"},
		{"Rule a 1900 max May Tue<=25 48:00:00 3:00:00 X", "Rule a 1900 max May Tue<=25 48:00 3:00 X\n"},
		{"Rule a 1900 only Jun lastWed 0:00:01 0:00:59 X", "Rule a 1900 only Jun lastWed 0:00:01 0:00:59 X\n"},
		{"Rule a 1900 only Jul Thu>=1 10:10:10w 2:02:02 X", "Rule a 1900 only Jul Thu>=1 10:10:10 2:02:02 X\n"},
		{"Rule a 1900 only Aug Fri<=9 0s 0 X", "Rule a 1900 only Aug Fri<=9 0:00s 0:00 X\n"},
		{"Rule a 1900 only Sep lastSat 0u 0 X", "Rule a 1900 only Sep lastSat 0:00u 0:00 X\n"},
		{"Zone A 0 - X", "Zone A 0:00 - X\n"},
		{"Zone A -0 0:00 %s", "Zone A 0:00 - %s\n"},
		{"Zone A -0:00:01 0:00:01 a/b", "Zone A -0:00:01 0:00:01 a/b\n"},
		{"Zone A 18:00 a X", "Zone A 18:00 a X\n"},
		{"Zone A -18:00 3:00 -", "Zone A -18:00 3:00 -\n"},
		{"Zone A -09:30:10 - X", "Zone A -9:30:10 - X\n"},
		{"Zone A 0 - X 0001 Oct 01 0\n\t1:00 - Y", "Zone A 0:00 - X 0001 Oct 1 0:00\n 1:00 - Y\n"},
		{"Zone A 0 - X 0987 Dec 31 0s\n  1:00 - Y", "Zone A 0:00 - X 0987 Dec 31 0:00\n 1:00 - Y\n"},
		{"Zone A 0 - X 9999 Nov 9 24:00u\n 1:00 r Y", "Zone A 0:00 - X 9999 Nov 9 24:00u\n 1:00 r Y\n"},
		{"Zone A 0 - X 0050 Jan 2 0\n 1:00 r Y 0060 Jan 1 1:01:01\n 2:00 - Z", "Zone A 0:00 - X 0050 Jan 2 0:00\n 1:00 r Y 0060 Jan 1 1:01:01\n 2:00 - Z\n"},
		{"Link B A\nLink A C", "Link B A\nLink A C\n"},
		// rules, then zones, then links, each in their order
		{"Link B A\nZone B 0 - X\nRule r 1999 only Jan 1 0 0 -\nLink A C\nZone A 0 r Y\nRule q 1999 only Jan 1 0 0 -",
			"Rule r 1999 only Jan 1 0:00 0:00 -\nRule q 1999 only Jan 1 0:00 0:00 -\nZone B 0:00 - X\nZone A 0:00 r Y\nLink B A\nLink A C\n"},
	} {
		if got, e := show.Show(parsed(t, c.text)); got != c.want || e != api.OK {
			t.Errorf("%q is shown as %q, %d; want %q", c.text, got, e, c.want)
		}
	}
}

func openEra() api.Era { return api.Era{Format: "X", Open: true} }

func closedEra() api.Era {
	return api.Era{Format: "X", Until: api.Until{Date: api.Date{Year: 2000, Month: 1, Day: 1}, Clock: api.ClockStandard}}
}

// longZone has so many eras.
func longZone(eras int) api.Zone {
	return api.Zone{Name: "A", Eras: append(slices.Repeat([]api.Era{closedEra()}, eras-1), openEra())}
}

// D1: errors of Check.
func TestShowChecks(t *testing.T) {
	for _, c := range []struct {
		s    api.Source
		want api.Errno
	}{
		{api.Source{Rules: make([]api.Rule, 41)}, api.ErrMany},
		{api.Source{Rules: make([]api.Rule, 1)}, api.ErrForm},
		{api.Source{Rules: []api.Rule{{Name: "a"}}}, api.ErrRange},
		{api.Source{Rules: []api.Rule{{Name: "a", From: 1999, To: 1999, Month: 1}}}, api.ErrKind},
		{api.Source{Zones: []api.Zone{{Name: "A"}}}, api.ErrForm},
		{api.Source{Zones: []api.Zone{{Name: "A", Eras: []api.Era{closedEra()}}}}, api.ErrState},
		{api.Source{Zones: []api.Zone{{Name: "A", Eras: []api.Era{openEra(), openEra()}}}}, api.ErrState},
		{api.Source{Links: make([]api.Link, 1)}, api.ErrForm},
	} {
		if got, e := show.Show(c.s); got != "" || e != c.want {
			t.Errorf("%v is shown as %q, %d; want %d", c.s, got, e, c.want)
		}
	}
}

// D1: errors of Join: 160 lines of eras, 20 of links and 40 of rules are too many.
func TestShowTooMuch(t *testing.T) {
	s := api.Source{
		Zones: slices.Repeat([]api.Zone{longZone(8)}, 20),
		Links: slices.Repeat([]api.Link{{To: "A", Name: "B"}}, 20),
		Rules: slices.Repeat(parsed(t, "Rule a 1999 only Jan 1 0 0 -").Rules, 20),
	}
	if got, e := show.Show(s); strings.Count(got, "\n") != 200 || e != api.OK {
		t.Errorf("200 lines are shown as %d, %d", strings.Count(got, "\n"), e)
	}
	s.Rules = append(s.Rules, s.Rules[0])
	if got, e := show.Show(s); got != "" || e != api.ErrMany {
		t.Errorf("201 lines are shown as %.20q, %d; want ErrMany", got, e)
	}
	s.Rules, s.Zones = nil, slices.Clone(s.Zones)
	name := strings.Repeat("n", 24)
	for i := range s.Zones {
		s.Zones[i] = longZone(8)
		for k := range s.Zones[i].Eras {
			e := &s.Zones[i].Eras[k]
			e.Shift, e.Rules, e.Format = -40000, name, name
		}
	}
	if got, e := show.Show(s); got != "" || e != api.ErrMany {
		t.Errorf("too long a text is shown as %.20q, %d; want ErrMany", got, e)
	}
}

// sample source, in which each field of each thing is something.
func sample() api.Source {
	return api.Source{
		Rules: []api.Rule{
			{Name: "a", From: 1999, To: 2001, Month: 2, Form: api.Form{Kind: 3, Weekday: 1, N: 2}, At: 3, Clock: 1, Save: 4, Letter: "S"},
			{Name: "b", From: 1950, To: 1951, Month: 3, Form: api.Form{Kind: 4, Weekday: 2, N: 9}, At: 5, Clock: 2, Save: 6, Letter: "T"},
		},
		Zones: []api.Zone{
			{Name: "A", Eras: []api.Era{
				{Shift: 1, Save: 2, Format: "X", Until: api.Until{Date: api.Date{Year: 1950, Month: 5, Day: 6}, At: 7, Clock: 2}},
				{Shift: 8, Rules: "a", Format: "Y", Open: true},
			}},
			{Name: "B", Eras: []api.Era{{Shift: 9, Format: "Z", Open: true}}},
		},
		Links: []api.Link{{To: "A", Name: "C"}, {To: "B", Name: "D"}},
	}
}

// eachLeaf of a value: each number, text and bool in it.
func eachLeaf(v reflect.Value, path string, do func(v reflect.Value, path string)) {
	switch v.Kind() {
	case reflect.Struct:
		for i := range v.NumField() {
			eachLeaf(v.Field(i), path+"."+v.Type().Field(i).Name, do)
		}
	case reflect.Slice:
		for i := range v.Len() {
			eachLeaf(v.Index(i), path+"[]", do)
		}
	default:
		do(v, path)
	}
}

func changeLeaf(v reflect.Value) {
	switch v.Kind() {
	case reflect.Int:
		v.SetInt(v.Int() + 1)
	case reflect.String:
		v.SetString(v.String() + "x")
	case reflect.Bool:
		v.SetBool(!v.Bool())
	}
}

// D2: sources are not the same, if any field of anything is another one.
func TestSameLooksAtAllFields(t *testing.T) {
	s, other := sample(), sample()
	leaves := 0
	eachLeaf(reflect.ValueOf(&s).Elem(), "", func(v reflect.Value, path string) {
		leaves++
		old := reflect.New(v.Type()).Elem()
		old.Set(v)
		if !show.Same(s, other) || !show.Same(other, s) {
			t.Errorf("ahead of a change of %s they are not the same", path)
		}
		changeLeaf(v)
		if show.Same(s, other) || show.Same(other, s) {
			t.Errorf("with another %s they are the same", path)
		}
		v.Set(old)
	})
	if leaves != 2*11+2+3*10+4 {
		t.Errorf("%d fields were changed", leaves)
	}
}

// D2: nor if there are more or fewer of something, or in another order.
func TestSameLooksAtLists(t *testing.T) {
	for name, do := range map[string]func(s *api.Source){
		"a rule less":          func(s *api.Source) { s.Rules = s.Rules[:1] },
		"no rules":             func(s *api.Source) { s.Rules = nil },
		"a rule more":          func(s *api.Source) { s.Rules = append(s.Rules, s.Rules[0]) },
		"rules changed about":  func(s *api.Source) { slices.Reverse(s.Rules) },
		"a zone less":          func(s *api.Source) { s.Zones = s.Zones[:1] },
		"a zone more":          func(s *api.Source) { s.Zones = append(s.Zones, api.Zone{}) },
		"zones changed about":  func(s *api.Source) { slices.Reverse(s.Zones) },
		"an era less":          func(s *api.Source) { s.Zones[0].Eras = s.Zones[0].Eras[:1] },
		"an era more":          func(s *api.Source) { s.Zones[1].Eras = append(s.Zones[1].Eras, api.Era{}) },
		"eras changed about":   func(s *api.Source) { slices.Reverse(s.Zones[0].Eras) },
		"no eras":              func(s *api.Source) { s.Zones[1].Eras = nil },
		"a link less":          func(s *api.Source) { s.Links = s.Links[:1] },
		"a link more":          func(s *api.Source) { s.Links = append(s.Links, api.Link{}) },
		"links changed about":  func(s *api.Source) { slices.Reverse(s.Links) },
		"nothing but zones":    func(s *api.Source) { s.Rules, s.Links = nil, nil },
		"nothing":              func(s *api.Source) { *s = api.Source{} },
		"one rule for another": func(s *api.Source) { s.Rules[1] = s.Rules[0] },
	} {
		s := sample()
		do(&s)
		if show.Same(s, sample()) || show.Same(sample(), s) {
			t.Errorf("%s: they are the same", name)
		}
		if !show.Same(s, s) {
			t.Errorf("%s: it is not the same as itself", name)
		}
	}
}

// D2, P2: an empty list may be nil or not; what is wrong may be the same as well.
func TestSameOfEmptyLists(t *testing.T) {
	empty := api.Source{Rules: []api.Rule{}, Zones: []api.Zone{}, Links: []api.Link{}}
	if !show.Same(api.Source{}, empty) || !show.Same(empty, api.Source{}) {
		t.Errorf("empty lists are not the same")
	}
	none := api.Source{Zones: []api.Zone{{Name: "A"}}}
	noEras := api.Source{Zones: []api.Zone{{Name: "A", Eras: []api.Era{}}}}
	if !show.Same(none, noEras) || !show.Same(noEras, none) {
		t.Errorf("empty lists of eras are not the same")
	}
	wrong := api.Source{Rules: []api.Rule{{Name: "\xff\x00", Month: -9}}, Links: make([]api.Link, 99)}
	if !show.Same(wrong, api.Source{Rules: slices.Clone(wrong.Rules), Links: make([]api.Link, 99)}) {
		t.Errorf("wrong sources are not the same")
	}
}

func pick[T any](r *rand.Rand, from ...T) T { return from[r.Intn(len(from))] }

func randomText(r *rand.Rand, first, more string, most int) string {
	b := []byte{first[r.Intn(len(first))]}
	for range r.Intn(most) {
		b = append(b, more[r.Intn(len(more))])
	}
	return string(b)
}

const letters = "abxyzABXYZ"

func randomName(r *rand.Rand) string { return randomText(r, letters, letters+"019_-/+", 24) }

func randomFormat(r *rand.Rand) string {
	part := func() string { return randomText(r, letters+"09+-", letters+"09+-", 11) }
	return pick(r, part(), part()+"/"+part(), part()+"%s"+part()[1:], "%s"+part(), part()+"%s", "%s", "-")
}

func randomRule(r *rand.Rand) api.Rule {
	rule := api.Rule{Name: randomName(r), From: 1900 + r.Intn(201), Month: 1 + r.Intn(12), Clock: 1 + r.Intn(3)}
	rule.To = pick(r, rule.From, api.MaxRule, rule.From+r.Intn(2101-rule.From))
	rule.At = pick(r, 0, api.MaxTime, r.Intn(api.MaxTime+1), 60*r.Intn(2881), 3600*r.Intn(49))
	rule.Save = pick(r, 0, api.MaxSave, r.Intn(api.MaxSave+1), 60*r.Intn(181))
	rule.Letter = pick(r, "", randomText(r, letters, letters, 24))
	n, weekday := 1+r.Intn(28), r.Intn(7)
	rule.Form = pick(r, api.Form{Kind: 1, N: n}, api.Form{Kind: 2, Weekday: weekday}, api.Form{Kind: 3, Weekday: weekday, N: n}, api.Form{Kind: 4, Weekday: weekday, N: n})
	return rule
}

func randomEra(r *rand.Rand, open bool) api.Era {
	e := api.Era{Shift: r.Intn(2*api.MaxShift+1) - api.MaxShift, Format: randomFormat(r), Open: open}
	e.Shift = pick(r, e.Shift, e.Shift/60*60, e.Shift/3600*3600, -r.Intn(90), 0, api.MaxShift, -api.MaxShift)
	switch r.Intn(3) {
	case 0:
		e.Rules = randomName(r)
	case 1:
		e.Save = pick(r, r.Intn(api.MaxSave+1), 1, 3600, api.MaxSave)
	}
	if !open {
		e.Until.Date = api.Date{Year: pick(r, 1, 9999, 1+r.Intn(9999)), Month: 1 + r.Intn(12), Day: 1 + r.Intn(28)}
		e.Until.At = pick(r, 0, api.MaxTime, r.Intn(api.MaxTime+1))
		e.Until.Clock = pick(r, api.ClockStandard, api.ClockUniversal)
	}
	return e
}

func randomSource(r *rand.Rand) api.Source {
	var s api.Source
	for range r.Intn(12) {
		s.Rules = append(s.Rules, randomRule(r))
	}
	for range r.Intn(5) {
		z := api.Zone{Name: randomName(r)}
		for range r.Intn(api.MaxEras) {
			z.Eras = append(z.Eras, randomEra(r, false))
		}
		z.Eras = append(z.Eras, randomEra(r, true))
		s.Zones = append(s.Zones, z)
	}
	for range r.Intn(6) {
		s.Links = append(s.Links, api.Link{To: randomName(r), Name: randomName(r)})
	}
	return s
}

// D3: what is shown is parsed to the same source, and shown as the same text.
func TestShownIsParsed(t *testing.T) {
	r := rand.New(rand.NewSource(3))
	for range 4000 {
		s := randomSource(r)
		text, e := show.Show(s)
		if e != api.OK {
			t.Fatalf("Show(%v): %d", s, e)
		}
		back := parsed(t, text)
		if !show.Same(s, back) {
			t.Fatalf("%v is shown as %q, which is %v", s, text, back)
		}
		if again, e := show.Show(back); again != text || e != api.OK {
			t.Fatalf("%q is shown as %q, %d", text, again, e)
		}
	}
}

// D3: each time of a day that there may be, and each shift, goes to and fro.
func TestTimesGoToAndFro(t *testing.T) {
	for at := 0; at <= api.MaxTime; at += 17 {
		e := closedEra()
		e.Until.At, e.Shift, e.Save = at, at%api.MaxShift-api.MaxShift/2, at%api.MaxSave
		s := api.Source{Zones: []api.Zone{{Name: "A", Eras: []api.Era{e, openEra()}}}}
		text, errno := show.Show(s)
		if errno != api.OK || !show.Same(s, parsed(t, text)) {
			t.Fatalf("%v is shown as %q, %d", s, text, errno)
		}
	}
}

// D3: a text that is parsed may be too long to be shown: each 0 is shown as 0:00.
func TestParsedMayBeTooLong(t *testing.T) {
	name := strings.Repeat("n", 24)
	era := " 0 " + name + " " + name + " 2000 Jan 1 0\n"
	s := parsed(t, strings.Repeat("Zone A"+era+strings.Repeat(era, 5)+" 0 - X\n", 19))
	if text, e := show.Show(s); text != "" || e != api.ErrMany {
		t.Errorf("it is shown as %.20q, %d; want ErrMany", text, e)
	}
	s.Zones = s.Zones[:17]
	if text, e := show.Show(s); e != api.OK || !show.Same(s, parsed(t, text)) {
		t.Errorf("less of it is shown as %.20q, %d", text, e)
	}
}

// P2: Show and Same only read, the spare room behind lists too.
func TestOnlyReads(t *testing.T) {
	given := func() api.Source {
		s := sample()
		s.Zones[0].Eras = append(s.Zones[0].Eras, api.Era{Format: "spare"})
		return s
	}
	whole := given()
	s := api.Source{Rules: whole.Rules[:1], Zones: slices.Clone(whole.Zones), Links: whole.Links[:1]}
	s.Zones[0].Eras = s.Zones[0].Eras[:2]
	if _, e := show.Show(s); e != api.OK {
		t.Errorf("it is %d", e)
	}
	if show.Same(s, whole) {
		t.Errorf("what is spare is looked at, or nothing is")
	}
	if !reflect.DeepEqual(whole, given()) {
		t.Errorf("it is left as %v", whole)
	}
}

// P3: what was asked in between changes no answer.
func TestAnswersStay(t *testing.T) {
	first, _ := show.Show(sample())
	for _, between := range []api.Source{{}, {Rules: make([]api.Rule, 50)}, {Zones: make([]api.Zone, 1)}} {
		show.Show(between)
		show.Same(between, sample())
		if text, e := show.Show(sample()); text != first || e != api.OK || !show.Same(sample(), sample()) {
			t.Errorf("it is %q, %d; it was %q", text, e, first)
		}
	}
}

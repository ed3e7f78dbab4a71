package table_test

import (
	"math/rand"
	"reflect"
	"slices"
	"strconv"
	"strings"
	"testing"
	"time"

	"dateline/api"
	"dateline/rule"
	"dateline/source"
	"dateline/table"
	"dateline/zone"
)

func parsed(t *testing.T, text string) api.Source {
	t.Helper()
	s, n, e := source.Parse(text)
	if n != 0 || e != api.OK {
		t.Fatalf("Parse(%q): %d, %d", text, n, e)
	}
	return s
}

func unix(year, month, day, seconds int) int {
	return int(time.Date(year, time.Month(month), day, 0, 0, seconds, 0, time.UTC).Unix())
}

// compiled of a text: the table of the zone A.
func compiled(t *testing.T, text string) (api.Table, api.Errno) {
	t.Helper()
	return table.Compile(parsed(t, text), "A")
}

func checkTable(t *testing.T, text string, want api.Table) {
	t.Helper()
	got, e := compiled(t, text)
	if got.First != want.First || !slices.Equal(got.Changes, want.Changes) || e != api.OK {
		t.Errorf("Compile(%q) = %v, %d; want %v", text, got, e, want)
	}
	if e := table.Check(got); e != api.OK {
		t.Errorf("Compile(%q) = %v, of which Check says %d", text, got, e)
	}
}

const example = `
Rule eu 1981 max Mar lastSun 1:00u 1:00 S
Rule eu 1996 max Oct lastSun 1:00u 0 -
Zone Here/Town 0:10 - LMT 1880 Jan 1 0
  1:00 eu CE%sT
Link Here/Town Old
`

// G2: the document's example.
func TestExample(t *testing.T) {
	lmt, cet, cest := api.Local{Shift: 600, Name: "LMT"}, api.Local{Shift: hour, Name: "CET"}, api.Local{Shift: 2 * hour, Save: hour, Name: "CEST"}
	for _, name := range []string{"Here/Town", "Old"} {
		l, e := table.Compile(parsed(t, example), name)
		// Up to 1996 clocks were turned in 1981 alone.
		want := []api.Change{{At: unix(1880, 1, 1, -600), Local: cet}, {At: unix(1981, 3, 29, hour), Local: cest}, {At: unix(1996, 10, 27, hour), Local: cet}, {At: unix(1997, 3, 30, hour), Local: cest}}
		if l.First != lmt || len(l.Changes) != 211 || !slices.Equal(l.Changes[:4], want) || e != api.OK {
			t.Fatalf("Compile(%s) = %v, %d", name, l, e)
		}
		if last := l.Changes[210]; last != (api.Change{At: unix(2100, 10, 31, hour), Local: cet}) {
			t.Errorf("the last change is %v", last)
		}
		checkLook(t, l, unix(2020, 3, 29, hour-1), cet)
		checkLook(t, l, unix(2020, 3, 29, hour), cest)
	}
}

func named(name string) api.Local { return api.Local{Name: name} }

// G2: a change where it is other than a second ahead, and nowhere else.
func TestChanges(t *testing.T) {
	noon := unix(2000, 1, 1, 12*hour)
	for _, c := range []struct {
		name, text string
		want       api.Table
	}{
		{"nothing changes", "Zone A -3:30 - X\n", api.Table{First: api.Local{Shift: -3*hour - 1800, Name: "X"}}},
		{"always saved", "Zone A 1:00 0:30 X/Y\n", api.Table{First: api.Local{Shift: hour + 1800, Save: 1800, Name: "Y"}}},
		{"an era as the one ahead", "Zone A 0 - X 2000 Jan 1 12:00\n 0 - X\n", api.Table{First: named("X")}},
		{"another format of the same name", "Zone A 0 - XY 2000 Jan 1 12:00\n 0 - X%sY 2001 Jan 1 0\n 0 - XY/Z\n", api.Table{First: named("XY")}},
		{"another name", "Zone A 0 - X 2000 Jan 1 12:00\n 0 - Y\n", api.Table{First: named("X"), Changes: []api.Change{{At: noon, Local: named("Y")}}}},
		{"as far ahead, but saved", "Zone A 1:00 - X 2000 Jan 1 12:00u\n 0 1:00 X\n", api.Table{First: api.Local{Shift: hour, Name: "X"}, Changes: []api.Change{{At: noon, Local: api.Local{Shift: hour, Save: hour, Name: "X"}}}}},
		{"to and fro", "Zone A 0 - X 2000 Jan 1 12:00u\n 1:00 - X 2000 Jan 1 12:00:01u\n 0 - X\n", api.Table{First: named("X"), Changes: []api.Change{{At: noon, Local: api.Local{Shift: hour, Name: "X"}}, {At: noon + 1, Local: named("X")}}}},
		{"to and as it was", "Zone A 0 - X 2000 Jan 1 12:00u\n 0 - X 2000 Jan 1 12:00:01u\n 0 - Y\n", api.Table{First: named("X"), Changes: []api.Change{{At: noon + 1, Local: named("Y")}}}},
		{"turns to what it is", "Rule a 2000 2002 Jan 1 12:00u 0 -\nZone A 0 a X\n", api.Table{First: named("X")}},
		{"turns to the same", "Rule a 2000 max Jan 1 12:00u 1:00 S\nZone A 0 a X%s\n", api.Table{First: named("X"), Changes: []api.Change{{At: noon, Local: api.Local{Shift: hour, Save: hour, Name: "XS"}}}}},
		{"turns to another letter", "Rule a 2000 only Jan 1 12:00u 0 S\nZone A 0 a X%s\n", api.Table{First: named("X"), Changes: []api.Change{{At: noon, Local: named("XS")}}}},
		{"turns to a letter that is not told", "Rule a 2000 only Jan 1 12:00u 0 S\nZone A 0 a X\n", api.Table{First: named("X")}},
	} {
		t.Run(c.name, func(t *testing.T) { checkTable(t, c.text, c.want) })
	}
}

// G2: turns at an era's ends, ahead of it, and behind it.
func TestTurnsOfEras(t *testing.T) {
	rules := "Rule a 2000 only Jan 1 12:00u 1:00 S\nRule a 2001 only Jan 1 12:00u 2:00 D\n"
	noon, next := unix(2000, 1, 1, 12*hour), unix(2001, 1, 1, 12*hour)
	x, s, d, w := named("X"), api.Local{Shift: hour, Save: hour, Name: "XS"}, api.Local{Shift: 2 * hour, Save: 2 * hour, Name: "XD"}, named("W")
	for _, c := range []struct {
		name, eras string
		first      api.Local
		changes    []api.Change
	}{
		{"all of it", "0 a X%s", x, []api.Change{{At: noon, Local: s}, {At: next, Local: d}}},
		{"begins at a turn", "0 - W 2000 Jan 1 12:00u\n 0 a X%s", w, []api.Change{{At: noon, Local: s}, {At: next, Local: d}}},
		{"begins ahead of a turn", "0 - W 2000 Jan 1 11:59:59u\n 0 a X%s", w, []api.Change{{At: noon - 1, Local: x}, {At: noon, Local: s}, {At: next, Local: d}}},
		{"begins behind a turn", "0 - W 2000 Jan 1 12:00:01u\n 0 a X%s", w, []api.Change{{At: noon + 1, Local: s}, {At: next, Local: d}}},
		{"begins behind all", "0 - W 2050 Jan 1 0u\n 0 a X%s", w, []api.Change{{At: unix(2050, 1, 1, 0), Local: d}}},
		{"ends at a turn", "0 a X%s 2000 Jan 1 12:00u\n 0 - W", x, []api.Change{{At: noon, Local: w}}},
		{"ends ahead of a turn", "0 a X%s 2000 Jan 1 11:59:59u\n 0 - W", x, []api.Change{{At: noon - 1, Local: w}}},
		{"ends behind a turn", "0 a X%s 2000 Jan 1 12:00:01u\n 0 - W", x, []api.Change{{At: noon, Local: s}, {At: noon + 1, Local: w}}},
		{"is but a second", "0 - W 2000 Jan 1 11:59:59u\n 0 a X%s 2000 Jan 1 12:00u\n 0 - W", w, []api.Change{{At: noon - 1, Local: x}, {At: noon, Local: w}}},
		{"goes on as it was", "0 a X%s 2000 Jun 1 0u\n 0 a X%s", x, []api.Change{{At: noon, Local: s}, {At: next, Local: d}}},
		{"has nothing saved any more", "0 a X%s 2000 Jun 1 0u\n 1:00 - XS 2000 Jul 1 0u\n 0 1:00 XS", x, []api.Change{{At: noon, Local: s}, {At: unix(2000, 6, 1, 0), Local: api.Local{Shift: hour, Name: "XS"}}, {At: unix(2000, 7, 1, 0), Local: s}}},
	} {
		t.Run(c.name, func(t *testing.T) {
			checkTable(t, rules+"Zone A "+c.eras+"\n", api.Table{First: c.first, Changes: c.changes})
		})
	}
	// By clocks of another era a turn of one name comes at another time.
	checkTable(t, "Rule a 2000 only Jan 1 12:00s 1:00 S\nZone A 0 a X%s 2000 Jan 1 11:00u\n 3:00 a X%s\n", api.Table{First: x, Changes: []api.Change{{At: noon - hour, Local: api.Local{Shift: 4 * hour, Save: hour, Name: "XS"}}}})
	checkTable(t, "Rule a 2000 only Jan 1 12:00s 1:00 S\nZone A 0 a X%s 2000 Jan 1 12:30u\n -3:00 a X%s\n", api.Table{First: x, Changes: []api.Change{{At: noon, Local: s}, {At: noon + 1800, Local: api.Local{Shift: -3 * hour, Name: "X"}}, {At: noon + 3*hour, Local: api.Local{Shift: -2 * hour, Save: hour, Name: "XS"}}}})
}

// G2: from the beginning of MinYear on, to the end of MaxYear.
func TestYears(t *testing.T) {
	x, y, z := named("X"), named("Y"), named("Z")
	for _, c := range []struct {
		eras string
		want api.Table
	}{
		{"0 - X 0001 Jan 1 0u\n 0 - Y", api.Table{First: y}},
		{"0 - X 0001 Jan 1 0:00:01u\n 0 - Y", api.Table{First: x, Changes: []api.Change{{At: firstTime + 1, Local: y}}}},
		{"18:00 - X 0001 Jan 1 0\n 0 - Y", api.Table{First: y}},
		{"2:00 - X 0001 Jan 1 0\n 1:00 - X 0001 Jan 1 0\n 0 - Y", api.Table{First: y}},
		{"2:00 - X 0001 Jan 1 0\n 0 - Y 0001 Jan 1 0:00:01u\n 0 - Z", api.Table{First: y, Changes: []api.Change{{At: firstTime + 1, Local: z}}}},
		{"0 - X 9999 Dec 31 23:59:59u\n 0 - Y", api.Table{First: x, Changes: []api.Change{{At: lastTime, Local: y}}}},
		{"0 - X 9999 Dec 31 24:00u\n 0 - Y", api.Table{First: x}},
		{"-18:00 - X 9999 Dec 31 48:00\n 0 - Y", api.Table{First: api.Local{Shift: -18 * hour, Name: "X"}}},
		{"0 - X 9999 Dec 31 24:00u\n 0 - Y 9999 Dec 31 25:00u\n 0 - Z", api.Table{First: x}},
		{"0 - X 9999 Dec 31 23:59:59u\n 0 - Y 9999 Dec 31 25:00u\n 0 - Z", api.Table{First: x, Changes: []api.Change{{At: lastTime, Local: y}}}},
		// Names that are of no time do not count.
		{"0 - %s 0001 Jan 1 0u\n 0 - Y", api.Table{First: y}},
		{"0 - X 9999 Dec 31 24:00u\n 0 - %s", api.Table{First: x}},
	} {
		checkTable(t, "Zone A "+c.eras+"\n", c.want)
	}
}

// G2: names of times that are empty, or too long.
func TestNamesOfTimes(t *testing.T) {
	n22, n24 := strings.Repeat("n", 22), strings.Repeat("n", 24)
	rules := "Rule a 2000 only Jan 1 0u 0 S\nRule a 2001 only Jan 1 0u 1:00 -\nRule a 2002 only Jan 1 0u 0 DDD\n"
	for _, c := range []struct {
		eras string
		want api.Errno
	}{
		{"0 - %s", api.ErrForm},
		{"0 1:00 %s", api.ErrForm},
		{"0 a %s", api.ErrForm},
		{"0 - X 2000 Jan 1 0u\n 0 a %s", api.ErrForm},
		// The one without a letter is over, or did not begin yet.
		{"0 - X 2000 Jan 1 0u\n 0 a %s 2001 Jan 1 0u\n 0 - X", api.OK},
		{"0 - X 2000 Jan 1 0u\n 0 a %s 2001 Jan 1 0:00:01u\n 0 - X", api.ErrForm},
		{"0 - X 1999 Dec 31 23:59:59u\n 0 a %s 2001 Jan 1 0u\n 0 - X", api.ErrForm},
		{"0 - X 2002 Jan 1 0u\n 0 a %s", api.OK},
		{"0 - " + n24, api.OK},
		{"0 - " + n22 + "%s", api.OK},
		{"0 a " + n22 + "%s", api.ErrForm},
		{"0 a " + n22[:21] + "%s", api.OK},
		{"0 a " + n22 + "%s 2002 Jan 1 0u\n 0 - X", api.OK},
		{"0 a " + n22 + "%s 2002 Jan 1 0:00:01u\n 0 - X", api.ErrForm},
		{"0 - X 2002 Jan 1 0u\n 0 a " + n22 + "%s", api.ErrForm},
	} {
		l, e := compiled(t, rules+"Zone A "+c.eras+"\nZone B 0 - B\n")
		if e != c.want || e != api.OK && !reflect.DeepEqual(l, api.Table{}) {
			t.Errorf("Compile(%q) = %v, %d; want %d", c.eras, l, e, c.want)
		}
		// What is wrong with names of another zone's times does not count.
		if l, e := table.Compile(parsed(t, rules+"Zone A "+c.eras+"\nZone B 0 - B\n"), "B"); l.First != named("B") || e != api.OK {
			t.Errorf("of B, beside %q: %v, %d", c.eras, l, e)
		}
	}
}

// thousand turns, from 1900 on, at each of which something changes; the last one is on the tenth of October 1999.
func thousand() string {
	var text strings.Builder
	for month := 1; month <= 10; month++ {
		text.WriteString("Rule a 1900 1999 " + time.Month(month).String()[:3] + " 10 0u " + strconv.Itoa(month%2) + ":00 -\n")
	}
	return text.String()
}

// G2: as many changes as may be, and one more; which error comes first.
func TestManyChanges(t *testing.T) {
	for _, c := range []struct {
		eras string
		many int
		want api.Errno
	}{
		{"0 a X", 1000, api.OK},
		{"0 a X 1999 Oct 10 0u\n 0 - X", 1000, api.OK},
		{"0 a X 1999 Oct 10 0u\n 0 - Y", 1000, api.OK},
		{"0 a X 1999 Oct 10 0:00:01u\n 0 - X", 1000, api.OK},
		{"0 a X 1999 Oct 10 0:00:01u\n 0 - Y", 0, api.ErrMany},
		{"0 - Y 1900 Jan 1 0\n 0 a X", 0, api.ErrMany},
		{"0 - Y 1900 Feb 1 0\n 0 a X", 1000, api.OK},
		{"0 - %s 1900 Jan 1 0\n 0 a X", 0, api.ErrForm},
		{"0 a X 1999 Oct 10 0:00:01u\n 0 - Y 2000 Jan 1 0\n 0 - %s", 0, api.ErrForm},
		{"0 a X 2000 Jan 1 0\n 0 b X", 0, api.ErrMany},
	} {
		second := strings.NewReplacer("Rule a", "Rule b", "1900", "2000", "1999", "2099").Replace(thousand())
		l, e := compiled(t, thousand()+second+"Zone A "+c.eras+"\n")
		if len(l.Changes) != c.many || e != c.want {
			t.Errorf("%q: %d changes, %d; want %d, %d", c.eras, len(l.Changes), e, c.many, c.want)
		}
		if e != api.OK && !reflect.DeepEqual(l, api.Table{}) {
			t.Errorf("%q: %v with an error", c.eras, l.First)
		}
		if e == api.OK && table.Check(l) != api.OK {
			t.Errorf("%q: Check: %d", c.eras, table.Check(l))
		}
	}
}

// G2, P1: errors of Find come ahead of what is wrong with the table.
func TestErrorsOfFind(t *testing.T) {
	for _, c := range []struct {
		text, name string
		want       api.Errno
	}{
		{"", "A", api.ErrNone},
		{"", "", api.ErrNone},
		{"Zone A 0 - X\n", "B", api.ErrNone},
		{"Zone A 0 - X\n", "a", api.ErrNone},
		{"Zone A 0 - %s\n", "B", api.ErrNone},
		{"Zone A 0 - %s\n", "A", api.ErrForm},
		{"Zone A 0 - %s\nLink A B\n", "B", api.ErrForm},
		{"Zone A 0 - %s\nLink B C\n", "A", api.ErrNone},
		{"Zone A 0 - %s\nZone B 0 no X\n", "A", api.ErrNone},
		{"Zone A 0 - %s\nZone A 0 - X\n", "A", api.ErrTwice},
		{"Zone A 0 - %s\nZone B 0 - X 2000 Jan 1 0\n 0 - X 1999 Jan 1 0\n 0 - X\n", "A", api.ErrState},
		{"Rule c 2000 only Jan 1 0 0 -\nRule c 2000 only Jan 2 0 0 -\nZone A 0 - %s\nZone B 0 c X\n", "A", api.ErrState},
		{thousand() + "Rule a 2000 only Jan 1 0 0 -\nZone A 0 - %s\nZone B 0 a X\n", "A", api.ErrMany},
	} {
		if l, e := table.Compile(parsed(t, c.text), c.name); !reflect.DeepEqual(l, api.Table{}) || e != c.want {
			t.Errorf("Compile(%q, %q) = %v, %d; want %d", c.text, c.name, l, e, c.want)
		}
	}
	for _, c := range []struct {
		name string
		do   func(s *api.Source)
		want api.Errno
	}{
		{"41 rules", func(s *api.Source) { s.Rules = make([]api.Rule, 41) }, api.ErrMany},
		{"a clock that is none", func(s *api.Source) { s.Rules[0].Clock = 4 }, api.ErrKind},
		{"a zone without eras", func(s *api.Source) { s.Zones[0].Eras = nil }, api.ErrForm},
		{"the last one has an end", func(s *api.Source) { s.Zones[0].Eras[1].Open = false }, api.ErrState},
	} {
		s := parsed(t, example)
		c.do(&s)
		if l, e := table.Compile(s, "Old"); !reflect.DeepEqual(l, api.Table{}) || e != c.want {
			t.Errorf("%s: %v, %d; want %d", c.name, l, e, c.want)
		}
	}
}

// drawSource: rules a and b, and a zone A whose eras end in order, some of them out of the years that there are.
func drawSource(r *rand.Rand) api.Source {
	var s api.Source
	for month := 1; month <= 11; month += 2 {
		from := 1900 + r.Intn(201)
		s.Rules = append(s.Rules, api.Rule{
			Name: []string{"a", "b"}[month/2%2], From: from, To: from + r.Intn(2101-from), Month: month, Form: api.Form{Kind: api.FormFrom, Weekday: r.Intn(7), N: 1 + r.Intn(20)},
			At: r.Intn(172801), Clock: 1 + r.Intn(3), Save: r.Intn(3) * hour, Letter: []string{"", "S", "DD"}[r.Intn(3)],
		})
	}
	z := api.Zone{Name: "A"}
	for i := range 1 + r.Intn(8) {
		e := api.Era{Shift: (r.Intn(37) - 18) * hour, Format: []string{"X", "a%sb", "y/z"}[r.Intn(3)], Rules: []string{"", "a", "b"}[r.Intn(3)]}
		if e.Rules == "" {
			e.Save = r.Intn(3) * hour
		}
		e.Until = api.Until{Date: api.Date{Year: 1900 + 25*i + r.Intn(20), Month: 1 + r.Intn(12), Day: 1 + r.Intn(28)}, At: r.Intn(172801), Clock: 2 + r.Intn(2)}
		if i == 0 && r.Intn(4) == 0 {
			e.Until.Date = api.Date{Year: 1, Month: 1, Day: 1}
		}
		if i == 6 && r.Intn(2) == 0 {
			e.Until.Date = api.Date{Year: 9999, Month: 12, Day: 31}
		}
		z.Eras = append(z.Eras, e)
	}
	last := &z.Eras[len(z.Eras)-1]
	last.Open, last.Until = true, api.Until{}
	s.Zones = []api.Zone{z}
	return s
}

// turnsOf a zone: times at which it may become other.
func turnsOf(s api.Source) []int {
	turns, _ := zone.Ends(s, "A")
	for _, e := range s.Zones[0].Eras {
		times, _ := rule.Times(s.Rules, e.Rules, e.Shift)
		for _, t := range times {
			turns = append(turns, t.At)
		}
	}
	return append(turns, firstTime, firstTime+1, 0, lastTime, lastTime+1)
}

// G3: what is looked up is what At says, whatever time it is, and the table is as short as may be.
func TestAnySource(t *testing.T) {
	r := rand.New(rand.NewSource(9))
	for range 150 {
		s := drawSource(r)
		l, e := table.Compile(s, "A")
		if e != api.OK || table.Check(l) != api.OK {
			t.Fatalf("Compile(%v) = %v, %d; Check: %d", s, l, e, table.Check(l))
		}
		turns := turnsOf(s)
		for range 40 {
			at := turns[r.Intn(len(turns))] - r.Intn(2)
			want, f := zone.At(s, "A", at)
			if got, e := table.Look(l, at); got != want || e != f {
				t.Fatalf("Look(%v, %d) = %v, %d; want %v, %d", s, at, got, e, want, f)
			}
		}
		for range min(20, len(l.Changes)) {
			c := l.Changes[r.Intn(len(l.Changes))]
			ahead, e := zone.At(s, "A", c.At-1)
			if here, f := zone.At(s, "A", c.At); here != c.Local || here == ahead || e != api.OK || f != api.OK {
				t.Fatalf("%v: change %v, but it is %v, and was %v", s, c, here, ahead)
			}
		}
	}
}

// P4: the greatest sources.
func TestLimits(t *testing.T) {
	var text strings.Builder
	for i := range 8 {
		for month := 1; month <= 9; month += 2 {
			text.WriteString("Rule r" + strconv.Itoa(i) + " 1900 2095 " + time.Month(month).String()[:3] + " 1 0 " + strconv.Itoa(month%4/2) + ":00 S\n")
		}
	}
	s := parsed(t, text.String())
	for i := range 20 {
		z := api.Zone{Name: "Z" + strconv.Itoa(i)}
		for k := range 8 {
			z.Eras = append(z.Eras, api.Era{Shift: k, Rules: "r" + strconv.Itoa((i+k)%8), Format: "X%s", Open: k == 7})
			if k < 7 {
				z.Eras[k].Until = api.Until{Date: api.Date{Year: 1950 + 10*k, Month: 1, Day: 1}, Clock: api.ClockUniversal}
			}
		}
		s.Zones = append(s.Zones, z)
		s.Links = append(s.Links, api.Link{To: z.Name, Name: "L" + strconv.Itoa(i)})
	}
	l, e := table.Compile(s, "L19")
	if e != api.OK || table.Check(l) != api.OK {
		t.Fatalf("Compile: %d; Check: %d", e, table.Check(l))
	}
	for at := unix(1899, 1, 1, 0); at < unix(2101, 1, 1, 0); at += 1000 * api.DayTime {
		want, _ := zone.At(s, "L19", at)
		checkLook(t, l, at, want)
	}
}

// P2, P3: what is handed in is only read, the room behind lists too, and is not kept; answers are the caller's.
func TestMemory(t *testing.T) {
	s, before := parsed(t, example), parsed(t, example)
	s.Rules = append(make([]api.Rule, 0, 8), s.Rules...)
	s.Zones[0].Eras = append(make([]api.Era, 0, 8), s.Zones[0].Eras...)
	room := append(long(3).Changes, api.Change{At: 77})
	l := api.Table{First: standard, Changes: room[:3]}
	first, _ := table.Compile(s, "Old")
	want := slices.Clone(first.Changes)
	for range 2 {
		table.Check(l)
		table.Look(l, 1)
		table.Look(l, lastTime+1)
		if !slices.Equal(room, append(long(3).Changes, api.Change{At: 77})) {
			t.Fatalf("a table was changed: %v", room)
		}
		c, _ := table.Compile(s, "Old")
		table.Compile(s, "None")
		if !reflect.DeepEqual(s, before) || !slices.Equal(s.Rules[2:8], make([]api.Rule, 6)) || !slices.Equal(s.Zones[0].Eras[2:8], make([]api.Era, 6)) {
			t.Fatalf("a source was changed: %v", s)
		}
		if !slices.Equal(c.Changes, want) {
			t.Errorf("it is %v now", c)
		}
		all := c.Changes[:cap(c.Changes)]
		for i := range all {
			all[i] = api.Change{}
		}
	}
	s.Zones[0].Eras[0].Format, s.Rules[0].Letter = "changed", "changed"
	if !slices.Equal(first.Changes, want) || first.First.Name != "LMT" {
		t.Errorf("an answer was changed: %v", first)
	}
}

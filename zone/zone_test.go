package zone_test

import (
	"math"
	"math/rand"
	"reflect"
	"slices"
	"strconv"
	"strings"
	"testing"
	"time"
	_ "time/tzdata"

	"dateline/api"
	"dateline/rule"
	"dateline/source"
	"dateline/zone"
)

const hour = 3600

// The first and the last second of years from MinYear to MaxYear.
const (
	firstTime = -62135596800
	lastTime  = 253402300799
)

func parsed(t *testing.T, text string) api.Source {
	t.Helper()
	s, n, e := source.Parse(text)
	if n != 0 || e != api.OK {
		t.Fatalf("Parse(%q): %d, %d", text, n, e)
	}
	return s
}

func unix(year, month, day, seconds int) int {
	return int(time.Date(year, time.Month(month), day, 0, 0, seconds, 0, time.UTC).Unix())
}

const example = `
Rule eu 1981 max Mar lastSun 1:00u 1:00 S
Rule eu 1996 max Oct lastSun 1:00u 0 -
Zone Here/Town 0:10 - LMT 1880 Jan 1 0
  1:00 eu CE%sT
Link Here/Town Old
`

const american = `
Rule us 1967 2006 Oct lastSun 2:00 0 S
Rule us 1967 1973 Apr lastSun 2:00 1:00 D
Rule us 1976 1986 Apr lastSun 2:00 1:00 D
Rule us 1987 2006 Apr Sun>=1 2:00 1:00 D
Rule us 2007 max Mar Sun>=8 2:00 1:00 D
Rule us 2007 max Nov Sun>=1 2:00 0 S
Zone There -5:00 us E%sT
`

// checkAt: how it is at a time.
func checkAt(t *testing.T, s api.Source, name string, at int, want api.Local) {
	t.Helper()
	if got, e := zone.At(s, name, at); got != want || e != api.OK {
		t.Errorf("At(%s, %d) = %v, %d; want %v", name, at, got, e, want)
	}
}

// F1, F2: the document's example.
func TestExample(t *testing.T) {
	s := parsed(t, example)
	if e := zone.Check(s); e != api.OK {
		t.Fatalf("Check: %d", e)
	}
	lmt, cet, cest := api.Local{Shift: 600, Name: "LMT"}, api.Local{Shift: hour, Name: "CET"}, api.Local{Shift: 2 * hour, Save: hour, Name: "CEST"}
	for _, name := range []string{"Here/Town", "Old"} {
		z, e := zone.Find(s, name)
		if !reflect.DeepEqual(z, s.Zones[0]) || e != api.OK {
			t.Errorf("Find(%s) = %v, %d", name, z, e)
		}
		end := unix(1880, 1, 1, -600)
		if l, e := zone.Ends(s, name); !slices.Equal(l, []int{end}) || e != api.OK {
			t.Errorf("Ends(%s) = %v, %d; want %d", name, l, e, end)
		}
		checkAt(t, s, name, firstTime, lmt)
		checkAt(t, s, name, end-1, lmt)
		checkAt(t, s, name, end, cet)
		checkAt(t, s, name, unix(1981, 3, 29, hour-1), cet)
		checkAt(t, s, name, unix(1981, 3, 29, hour), cest)
		checkAt(t, s, name, unix(1996, 10, 27, hour-1), cest)
		checkAt(t, s, name, unix(1996, 10, 27, hour), cet)
		checkAt(t, s, name, unix(2020, 3, 29, hour-1), cet)
		checkAt(t, s, name, unix(2020, 3, 29, hour), cest)
		checkAt(t, s, name, lastTime, cet)
	}
}

// F2: as it was in towns that there are.
func TestTowns(t *testing.T) {
	r := rand.New(rand.NewSource(6))
	for _, c := range []struct {
		s          api.Source
		name, town string
		from       int
	}{
		{parsed(t, example), "Old", "Europe/Berlin", 1997},
		{parsed(t, american), "There", "America/New_York", 1977},
	} {
		town, err := time.LoadLocation(c.town)
		if err != nil {
			t.Fatal(err)
		}
		first := unix(c.from, 1, 1, 0)
		for range 1000 {
			at := first + r.Intn(unix(2020, 1, 1, 0)-first)
			name, shift := time.Unix(int64(at), 0).In(town).Zone()
			if got, e := zone.At(c.s, c.name, at); got.Name != name || got.Shift != shift || e != api.OK {
				t.Fatalf("%s at %d: %v, %d; want %s, %d", c.town, at, got, e, name, shift)
			}
		}
	}
}

// F1: names twice, and those that are none.
func TestNames(t *testing.T) {
	for _, c := range []struct {
		text string
		want api.Errno
	}{
		{"", api.OK},
		{"Zone A 0 - X\nZone a 0 - X\nLink A B\nLink A C\nLink a D\n", api.OK},
		{"Link A B\nZone A 0 - X\n", api.OK},
		{"Zone A 0 - X\nZone B 0 - Y\nZone A 0 - Z\n", api.ErrTwice},
		{"Zone A 0 - X\nZone A 0 - X\n", api.ErrTwice},
		{"Zone A 0 - X\nLink A B\nLink A B\n", api.ErrTwice},
		{"Zone A 0 - X\nZone C 0 - X\nLink A B\nLink A D\nLink C B\n", api.ErrTwice},
		{"Zone A 0 - X\nZone B 0 - X\nLink A B\n", api.ErrTwice},
		{"Zone A 0 - X\nLink A A\n", api.ErrTwice},
		{"Link A B\n", api.ErrNone},
		{"Link A A\n", api.ErrNone},
		{"Zone A 0 - X\nLink A B\nLink a C\n", api.ErrNone},
		{"Zone A 0 - X\nLink A B\nLink B C\n", api.ErrNone},
		{"Zone A 0 no X\n", api.ErrNone},
		{"Zone A 0 A X\n", api.ErrNone},
		{"Zone A 0 no X 2000 Jan 1 0\n 0 - X\n", api.ErrNone},
		{"Rule no 2000 only Jan 1 0 0 -\nZone A 0 no X\nZone B 0 - X 2000 Jan 1 0\n 0 NO X\n", api.ErrNone},
		{"Rule A 2000 only Jan 1 0 0 -\nZone A 0 A X\n", api.OK},
	} {
		if e := zone.Check(parsed(t, c.text)); e != c.want {
			t.Errorf("Check(%q) = %d; want %d", c.text, e, c.want)
		}
	}
}

const (
	// closeRules turn clocks twice in two days.
	closeRules = "Rule close 2000 only Jan 1 0 1:00 -\nRule close 2000 only Jan 2 0 0 -\n"
	// manyRules turn clocks 1001 times.
	manyRules = "Rule many 1900 max Jan 1 0 0 -\nRule many 1900 max Mar 1 0 0 -\nRule many 1900 max May 1 0 0 -\nRule many 1900 max Jul 1 0 0 -\nRule many 1900 2096 Sep 1 0 0 -\n"
)

// F1: what Times says of an era's rules; those that no era has do not count.
func TestRulesOfEras(t *testing.T) {
	fine := strings.Replace(manyRules, "2096", "2095", 1)
	for _, c := range []struct {
		text string
		want api.Errno
	}{
		{closeRules + manyRules + "Zone A 0 - X\n", api.OK},
		{fine + "Zone A 0 many X\nZone B 1:00 many X\n", api.OK},
		{closeRules + "Zone A 0 close X\n", api.ErrState},
		{manyRules + "Zone A 0 many X\n", api.ErrMany},
		{fine + closeRules + "Zone A 0 - X\nZone B 0 many X 2000 Jan 1 0\n 0 - X 2001 Jan 1 0\n 0 close X\n", api.ErrState},
		{manyRules + "Zone A 0 many X 1800 Jan 1 0\n 0 - X\n", api.ErrMany},
		// The first era of which something is wrong tells.
		{closeRules + manyRules + "Zone A 0 many X\nZone B 0 close X\n", api.ErrMany},
		{manyRules + closeRules + "Zone A 0 close X 2000 Jan 1 0\n 0 many X\n", api.ErrState},
	} {
		if e := zone.Check(parsed(t, c.text)); e != c.want {
			t.Errorf("Check(%q) = %d; want %d", c.text, e, c.want)
		}
	}
}

// F1: when eras end, and that each ends later than the one ahead.
func TestEnds(t *testing.T) {
	noon := unix(2000, 1, 1, 12*hour)
	for _, c := range []struct {
		eras string
		want []int
	}{
		{"0 - X", nil},
		{"1:00 - X 2000 Jan 1 12:00\n 0 - X", []int{noon - hour}},
		{"1:00 - X 2000 Jan 1 12:00s\n 0 - X", []int{noon - hour}},
		{"1:00 - X 2000 Jan 1 12:00u\n 0 - X", []int{noon}},
		{"-1:00 - X 2000 Jan 1 12:00\n 0 - X", []int{noon + hour}},
		// What is saved does not count.
		{"1:00 2:00 X 2000 Jan 1 12:00\n 0 - X", []int{noon - hour}},
		{"0 - X 1999 Dec 31 36:00\n 0 - X", []int{noon}},
		{"0 - X 2000 Jan 1 0u\n 0 - X 2000 Jan 1 0:00:01u\n 0 - X", []int{noon - 12*hour, noon - 12*hour + 1}},
		{"0 - X 2000 Jan 1 0u\n 0 - X 2000 Jan 1 0u\n 0 - X", []int{}},
		{"0 - X 2000 Jan 1 0:00:01u\n 0 - X 2000 Jan 1 0u\n 0 - X", []int{}},
		{"0 - X 1999 Jan 1 0\n 0 - X 2001 Jan 1 0\n 0 - X 2000 Jan 1 0\n 0 - X", []int{}},
		// Clocks of eras make the difference.
		{"1:00 - X 2000 Jan 1 12:00\n 0 - X 2000 Jan 1 12:00\n 5:00 - X", []int{noon - hour, noon}},
		{"0 - X 2000 Jan 1 12:00\n 1:00 - X 2000 Jan 1 12:00\n 5:00 - X", []int{}},
		{"1:00 - X 2000 Jan 1 12:00\n 0 - X 2000 Jan 1 11:00\n 5:00 - X", []int{}},
		{"1:00 - X 2000 Jan 1 12:00\n 1:00 - X 2000 Jan 1 12:00u\n 5:00 - X", []int{noon - hour, noon}},
		{"1:00 - X 2000 Jan 1 12:00u\n 1:00 - X 2000 Jan 1 13:00s\n 5:00 - X", []int{}},
		{"-18:00 - X 2000 Jan 1 0\n 18:00 - X 2000 Jan 2 0\n 0 - X", []int{}},
		// They may be out of the years that there are.
		{"18:00 - X 0001 Jan 1 0\n -18:00 - X 9999 Dec 31 48:00\n 0 - X", []int{firstTime - 18*hour, lastTime + 1 + 24*hour + 18*hour}},
	} {
		s := parsed(t, "Zone Other 0 - X\nZone A "+c.eras+"\nLink A B\n")
		want := api.OK
		if c.want != nil && len(c.want) == 0 {
			want = api.ErrState
		}
		if e := zone.Check(s); e != want {
			t.Errorf("Check(%q) = %d; want %d", c.eras, e, want)
		}
		for _, name := range []string{"A", "B"} {
			if l, e := zone.Ends(s, name); !slices.Equal(l, c.want) || e != want {
				t.Errorf("Ends(%q, %s) = %v, %d; want %v, %d", c.eras, name, l, e, c.want, want)
			}
		}
	}
}

// faults in the order in which F1 names them.
var faults = []struct {
	name string
	do   func(s *api.Source)
	want api.Errno
}{
	{"too many", func(s *api.Source) { s.Links = append(s.Links, make([]api.Link, 21)...) }, api.ErrMany},
	{"a clock that is none", func(s *api.Source) { s.Rules[0].Clock = 0 }, api.ErrKind},
	{"two zones", func(s *api.Source) { s.Zones = append(s.Zones, s.Zones[0]) }, api.ErrTwice},
	{"two links", func(s *api.Source) { s.Links = append(s.Links, s.Links[0]) }, api.ErrTwice},
	{"a zone and a link", func(s *api.Source) { s.Links = append(s.Links, api.Link{To: "B", Name: "A"}) }, api.ErrTwice},
	{"a link astray", func(s *api.Source) { s.Links = append(s.Links, api.Link{To: "No", Name: "L2"}) }, api.ErrNone},
	{"rules that are none", func(s *api.Source) { s.Zones[1].Eras[1].Rules = "No" }, api.ErrNone},
	{"too many turns", func(s *api.Source) { s.Zones[1].Eras[0].Rules = "many" }, api.ErrMany},
	{"ends that do not rise", func(s *api.Source) { s.Zones[0].Eras[1].Until.Date.Year = 1900 }, api.ErrState},
}

func faultless(t *testing.T) api.Source {
	return parsed(t, manyRules+"Rule a 2000 max Jan 1 0 0 -\nZone A 0 - X 1950 Jan 1 0\n 1:00 a X 1960 Jan 1 0\n 0 - X\nZone B 0 - X 1950 Jan 1 0\n 1:00 a X\nLink A L\n")
}

// checkNothing: all calls answer an error, and nothing else.
func checkNothing(t *testing.T, what string, s api.Source, name string, at int, want api.Errno) {
	t.Helper()
	if z, e := zone.Find(s, name); !reflect.DeepEqual(z, api.Zone{}) || e != want {
		t.Errorf("%s: Find: %v, %d; want %d", what, z, e, want)
	}
	if l, e := zone.Ends(s, name); len(l) != 0 || e != want {
		t.Errorf("%s: Ends: %v, %d; want %d", what, l, e, want)
	}
	if l, e := zone.At(s, name, at); l != (api.Local{}) || e != want {
		t.Errorf("%s: At: %v, %d; want %d", what, l, e, want)
	}
}

// F1, F2, P1: each error; of two, the one that is named first; with it nothing else.
func TestErrors(t *testing.T) {
	if e := zone.Check(faultless(t)); e != api.OK {
		t.Fatalf("nothing is wrong, but it is %d", e)
	}
	for i, f := range faults {
		s := faultless(t)
		f.do(&s)
		if e := zone.Check(s); e != f.want {
			t.Errorf("%s: %d; want %d", f.name, e, f.want)
		}
		// Ahead of what is wrong with a name and a time.
		checkNothing(t, f.name, s, "A", 0, f.want)
		checkNothing(t, f.name, s, "None", lastTime+1, f.want)
		for _, g := range faults[i+1:] {
			s := faultless(t)
			g.do(&s)
			f.do(&s)
			if e := zone.Check(s); e != f.want {
				t.Errorf("%s, and %s: %d; want %d", f.name, g.name, e, f.want)
			}
		}
	}
	for _, name := range []string{"", "None", "a", "AA", "many", "A\x00", "L "} {
		checkNothing(t, "no such zone", faultless(t), name, 0, api.ErrNone)
		checkNothing(t, "no such zone, nor time", faultless(t), name, lastTime+1, api.ErrNone)
	}
	checkNothing(t, "nothing at all", api.Source{}, "A", 0, api.ErrNone)
}

// F1: what chapter 3 says of a source.
func TestCheckOfSources(t *testing.T) {
	for _, c := range []struct {
		name string
		do   func(s *api.Source)
		want api.Errno
	}{
		{"41 rules", func(s *api.Source) { s.Rules = make([]api.Rule, 41) }, api.ErrMany},
		{"21 zones", func(s *api.Source) { s.Zones = make([]api.Zone, 21) }, api.ErrMany},
		{"9 eras", func(s *api.Source) { s.Zones[0].Eras = make([]api.Era, 9) }, api.ErrMany},
		{"no eras", func(s *api.Source) { s.Zones[1].Eras = nil }, api.ErrForm},
		{"a link without a name", func(s *api.Source) { s.Links[0].Name = "" }, api.ErrForm},
		{"too great a shift", func(s *api.Source) { s.Zones[0].Eras[0].Shift = math.MaxInt }, api.ErrRange},
		{"the last one has an end", func(s *api.Source) { s.Zones[0].Eras[2].Open = false }, api.ErrState},
		{"an end ahead of a last one", func(s *api.Source) { s.Zones[0].Eras[0].Open = true }, api.ErrState},
		{"no such day", func(s *api.Source) { s.Zones[0].Eras[0].Until.Date.Day = 32 }, api.ErrRange},
		{"by clocks on walls", func(s *api.Source) { s.Zones[0].Eras[0].Until.Clock = api.ClockWall }, api.ErrKind},
		{"a rule that no era has", func(s *api.Source) { s.Rules[0].Save = -1 }, api.ErrRange},
	} {
		s := faultless(t)
		c.do(&s)
		if e := zone.Check(s); e != c.want {
			t.Errorf("%s: %d; want %d", c.name, e, c.want)
		}
		checkNothing(t, c.name, s, "A", 0, c.want)
	}
}

// F1: as much as there may be.
func TestLimits(t *testing.T) {
	var text strings.Builder
	for i := range 8 {
		for month := 1; month <= 9; month += 2 {
			text.WriteString("Rule r" + strconv.Itoa(i) + " 1900 2095 " + time.Month(month).String()[:3] + " 1 0 1:00 S\n")
		}
	}
	s := parsed(t, text.String())
	for i := range 20 {
		z := api.Zone{Name: "Z" + strconv.Itoa(i)}
		for k := range 8 {
			z.Eras = append(z.Eras, api.Era{Shift: k, Rules: "r" + strconv.Itoa((i+k)%8), Format: "%s", Open: k == 7})
			if k < 7 {
				z.Eras[k].Until = api.Until{Date: api.Date{Year: 1950 + 10*k, Month: 1, Day: 1}, Clock: api.ClockUniversal}
			}
		}
		s.Zones = append(s.Zones, z)
		s.Links = append(s.Links, api.Link{To: z.Name, Name: "L" + strconv.Itoa(i)})
	}
	if e := zone.Check(s); e != api.OK {
		t.Fatalf("Check: %d", e)
	}
	z, e := zone.Find(s, "L19")
	l, f := zone.Ends(s, "Z19")
	if z.Name != "Z19" || len(z.Eras) != 8 || e != api.OK || len(l) != 7 || f != api.OK {
		t.Errorf("Z19 has %d eras, %d, and %d ends, %d", len(z.Eras), e, len(l), f)
	}
	checkAt(t, s, "L19", unix(2000, 1, 1, 0), api.Local{Shift: 6 + hour, Save: hour, Name: "S"})
}

// F2: years of times.
func TestYears(t *testing.T) {
	s := parsed(t, "Zone A 18:00 - X 0001 Jan 1 0\n -18:00 - Y 9999 Dec 31 48:00\n 0 - Z\n")
	for _, at := range []int{firstTime, firstTime + 1, -1, 0, 1, lastTime - 1, lastTime} {
		// The first era ends ahead of all, the second one behind all.
		checkAt(t, s, "A", at, api.Local{Shift: -18 * hour, Name: "Y"})
	}
	for _, at := range []int{firstTime - 1, firstTime - 18*hour - 1, lastTime + 1, math.MinInt, math.MaxInt} {
		if l, e := zone.At(s, "A", at); l != (api.Local{}) || e != api.ErrRange {
			t.Errorf("At(%d) = %v, %d; want ErrRange", at, l, e)
		}
	}
}

const letters = "Rule a 2000 only Jun 1 0u 0 S\nRule a 2001 only Jun 1 0u 1:00 -\nRule a 2002 only Jun 1 0u 2:00 DD\n"

// F2: names of times, and what is saved.
func TestNamesOfTimes(t *testing.T) {
	for _, c := range []struct {
		rules, format string
		// ahead of all turns, behind the first, the second, the third
		want [4]string
	}{
		{"a", "X", [4]string{"X", "X", "X", "X"}},
		{"a", "%s", [4]string{"", "S", "", "DD"}},
		{"a", "C%sT", [4]string{"CT", "CST", "CT", "CDDT"}},
		{"a", "%sT", [4]string{"T", "ST", "T", "DDT"}},
		{"a", "C%s", [4]string{"C", "CS", "C", "CDD"}},
		{"a", "s/d", [4]string{"s", "s", "d", "d"}},
		{"a", "+01/-02", [4]string{"+01", "+01", "-02", "-02"}},
		{"-", "C%sT", [4]string{"CT", "CT", "CT", "CT"}},
		{"-", "A/B", [4]string{"A", "A", "A", "A"}},
		{"-", "X", [4]string{"X", "X", "X", "X"}},
		{"0:30", "C%sT", [4]string{"CT", "CT", "CT", "CT"}},
		{"0:30", "A/B", [4]string{"B", "B", "B", "B"}},
		{"0:00:01", "A/B", [4]string{"B", "B", "B", "B"}},
		{"0:00", "A/B", [4]string{"A", "A", "A", "A"}},
		{"0:30", "X", [4]string{"X", "X", "X", "X"}},
	} {
		s := parsed(t, letters+"Zone A -3:00 "+c.rules+" "+c.format+"\n")
		saved := [4]int{0, 0, hour, 2 * hour}
		if c.rules != "a" {
			save := s.Zones[0].Eras[0].Save
			saved = [4]int{save, save, save, save}
		}
		for i, name := range c.want {
			checkAt(t, s, "A", unix(2000+i, 1, 1, 0), api.Local{Shift: -3*hour + saved[i], Save: saved[i], Name: name})
		}
	}
	long := strings.Repeat("L", 24)
	s := parsed(t, "Rule a 2000 only Jan 1 0 0 "+long+"\nZone A 0 a "+long[:22]+"%s\n")
	checkAt(t, s, "A", unix(2001, 1, 1, 0), api.Local{Name: long[:22] + long})
}

// F2: an era has all turns of its rules, those ahead of it too, by its own clocks.
func TestTurnsOfEras(t *testing.T) {
	s := parsed(t, "Rule a 2000 only Jun 1 0:00 1:00 S\nRule a 2001 only Jun 1 0:00s 2:00 T\nRule a 2002 only Jun 1 0:00 0 U\n"+
		"Zone A 0 - X 2000 Aug 1 0\n 2:00 a Y%s 2001 Jun 1 0\n 5:00 a Z%s 2002 May 31 16:00u\n 9:00 0:30 W 2003 Jan 1 0\n -1:00 a V%s\n")
	for _, c := range []struct {
		at   int
		want api.Local
	}{
		{unix(2000, 7, 1, 0), api.Local{Name: "X"}},
		{unix(2000, 8, 1, -1), api.Local{Name: "X"}},
		{unix(2000, 8, 1, 0), api.Local{Shift: 3 * hour, Save: hour, Name: "YS"}},
		{unix(2001, 6, 1, -2*hour-1), api.Local{Shift: 3 * hour, Save: hour, Name: "YS"}},
		// By the clocks of the next era that turn was three hours ago.
		{unix(2001, 6, 1, -2*hour), api.Local{Shift: 7 * hour, Save: 2 * hour, Name: "ZT"}},
		{unix(2002, 5, 31, 16*hour-1), api.Local{Shift: 7 * hour, Save: 2 * hour, Name: "ZT"}},
		{unix(2002, 5, 31, 16*hour), api.Local{Shift: 9*hour + 1800, Save: 1800, Name: "W"}},
		{unix(2003, 1, 1, -9*hour-1), api.Local{Shift: 9*hour + 1800, Save: 1800, Name: "W"}},
		{unix(2003, 1, 1, -9*hour), api.Local{Shift: -hour, Name: "VU"}},
	} {
		checkAt(t, s, "A", c.at, c.want)
	}
}

// F2: clocks on walls show what was saved ahead of a turn.
func TestTurnsByClocks(t *testing.T) {
	for _, c := range []struct {
		clock       string
		first, next int
	}{
		{"w", 2 * hour, hour}, {"s", 2 * hour, 2 * hour}, {"u", 0, 0},
	} {
		s := parsed(t, "Rule a 2000 only Jun 1 0"+c.clock+" 1:00 S\nRule a 2000 only Sep 1 0"+c.clock+" 0 -\nZone A -2:00 a X\n")
		checkAt(t, s, "A", unix(2000, 6, 1, c.first-1), api.Local{Shift: -2 * hour, Name: "X"})
		checkAt(t, s, "A", unix(2000, 6, 1, c.first), api.Local{Shift: -hour, Save: hour, Name: "X"})
		checkAt(t, s, "A", unix(2000, 9, 1, c.next-1), api.Local{Shift: -hour, Save: hour, Name: "X"})
		checkAt(t, s, "A", unix(2000, 9, 1, c.next), api.Local{Shift: -2 * hour, Name: "X"})
	}
}

// drawSource: rules a and b, and a zone A whose eras end in order.
func drawSource(r *rand.Rand) api.Source {
	var s api.Source
	for month := 1; month <= 11; month += 2 {
		from := 1900 + r.Intn(201)
		s.Rules = append(s.Rules, api.Rule{
			Name: []string{"a", "b"}[month/2%2], From: from, To: from + r.Intn(2101-from), Month: month, Form: api.Form{Kind: api.FormFrom, Weekday: r.Intn(7), N: 1 + r.Intn(20)},
			At: r.Intn(172801), Clock: 1 + r.Intn(3), Save: r.Intn(2) * r.Intn(10801), Letter: []string{"", "S", "DD"}[r.Intn(3)],
		})
	}
	z := api.Zone{Name: "A"}
	for i := range 1 + r.Intn(8) {
		e := api.Era{Shift: r.Intn(129601) - 64800, Format: []string{"X", "a%sb", "y/z"}[r.Intn(3)], Rules: []string{"", "a", "b"}[r.Intn(3)]}
		if e.Rules == "" {
			e.Save = r.Intn(2) * r.Intn(10801)
		}
		e.Until = api.Until{Date: api.Date{Year: 1900 + 25*i + r.Intn(20), Month: 1 + r.Intn(12), Day: 1 + r.Intn(28)}, At: r.Intn(172801), Clock: 2 + r.Intn(2)}
		z.Eras = append(z.Eras, e)
	}
	last := &z.Eras[len(z.Eras)-1]
	last.Open, last.Until = true, api.Until{}
	s.Zones = []api.Zone{z}
	return s
}

// wanted: how it is, as the chapter has it, in another way; and the times at which it may become another.
func wanted(s api.Source, at int) (api.Local, []int) {
	z := s.Zones[0]
	var turns []int
	begin := math.MinInt
	var want api.Local
	for _, e := range z.Eras {
		end := math.MaxInt
		if !e.Open {
			d := e.Until.Date
			end = unix(d.Year, d.Month, d.Day, e.Until.At) - []int{0, 0, e.Shift, 0}[e.Until.Clock]
			turns = append(turns, end)
		}
		save, letter := e.Save, ""
		times, _ := rule.Times(s.Rules, e.Rules, e.Shift)
		for _, t := range times {
			turns = append(turns, t.At)
			if t.At <= at {
				save, letter = t.Save, t.Letter
			}
		}
		if begin <= at && at < end {
			name := strings.Replace(e.Format, "%s", letter, 1)
			if parts := strings.Split(name, "/"); len(parts) == 2 {
				name = parts[min(save, 1)]
			}
			want = api.Local{Shift: e.Shift + save, Save: save, Name: name}
		}
		begin = end
	}
	return want, turns
}

// F1, F2: what any source says, around its turns and ends.
func TestAnySource(t *testing.T) {
	r := rand.New(rand.NewSource(7))
	for range 100 {
		s := drawSource(r)
		if e := zone.Check(s); e != api.OK {
			t.Fatalf("Check(%v) = %d", s, e)
		}
		_, turns := wanted(s, 0)
		turns = append(turns, firstTime+1, 0, lastTime)
		for range 20 {
			at := turns[r.Intn(len(turns))] - r.Intn(2)
			want, _ := wanted(s, at)
			if got, e := zone.At(s, "A", at); got != want || e != api.OK {
				t.Fatalf("At(%v, %d) = %v, %d; want %v", s, at, got, e, want)
			}
		}
	}
}

func cloned(s api.Source) api.Source {
	c := api.Source{Rules: slices.Clone(s.Rules), Zones: slices.Clone(s.Zones), Links: slices.Clone(s.Links)}
	for i := range c.Zones {
		c.Zones[i].Eras = slices.Clone(c.Zones[i].Eras)
	}
	return c
}

// P2, P3: what is handed in is only read, the room behind lists too, and is not kept; answers are the caller's.
func TestMemory(t *testing.T) {
	room := faultless(t)
	before := cloned(room)
	s := api.Source{Rules: room.Rules, Zones: room.Zones[:1], Links: room.Links[:1]}
	s.Zones[0].Eras = append(make([]api.Era, 0, 8), s.Zones[0].Eras...)
	spare := s.Zones[0].Eras[:8]
	for range 2 {
		zone.Check(s)
		z, _ := zone.Find(s, "L")
		l, _ := zone.Ends(s, "L")
		zone.At(s, "L", 0)
		zone.At(s, "No", lastTime+1)
		if !reflect.DeepEqual(room, before) || !slices.Equal(spare[3:], make([]api.Era, 5)) {
			t.Fatalf("a source was changed: %v", room)
		}
		if !reflect.DeepEqual(z, before.Zones[0]) || !slices.Equal(l, []int{unix(1950, 1, 1, 0), unix(1960, 1, 1, -hour)}) {
			t.Errorf("they are %v, %v", z, l)
		}
		for i := range z.Eras[:cap(z.Eras)] {
			z.Eras[:cap(z.Eras)][i].Format = "changed"
		}
		for i := range l[:cap(l)] {
			l[:cap(l)][i] = 1
		}
	}
	z, _ := zone.Find(s, "A")
	s.Zones[0].Eras[0].Format = "changed"
	if z.Eras[0].Format != "X" {
		t.Errorf("an answer was changed: %v", z)
	}
}

package rule_test

import (
	"math"
	"math/rand"
	"reflect"
	"slices"
	"sort"
	"testing"
	"time"

	"dateline/api"
	"dateline/rule"
	"dateline/source"
)

const day, hour = api.DayTime, 3600

func rulesOf(t *testing.T, text string) []api.Rule {
	t.Helper()
	s, n, e := source.Parse(text)
	if n != 0 || e != api.OK {
		t.Fatalf("Parse(%q): %d, %d", text, n, e)
	}
	return s.Rules
}

func timesOf(t *testing.T, l []api.Rule, name string, shift int) []api.Time {
	t.Helper()
	times, e := rule.Times(l, name, shift)
	if e != api.OK {
		t.Fatalf("Times(%v, %q, %d): %d", l, name, shift, e)
	}
	return times
}

// onDay N of a month, always: a rule of the name a.
func onDay(from, to, month, n, at, clock, save int) api.Rule {
	return api.Rule{Name: "a", From: from, To: to, Month: month, Form: api.Form{Kind: api.FormDay, N: n}, At: at, Clock: clock, Save: save}
}

func unix(year, month, day, seconds int) int {
	return int(time.Date(year, time.Month(month), day, 0, 0, seconds, 0, time.UTC).Unix())
}

const european = "Rule eu 1981 max Mar lastSun 1:00u 1:00 S\nRule eu 1996 max Oct lastSun 1:00u 0 -\n"

const american = "Rule us 1967 2006 Oct lastSun 2:00 0 S\nRule us 1967 1973 Apr lastSun 2:00 1:00 D\nRule us 2007 max Mar Sun>=8 2:00 1:00 D\nRule us 2007 max Nov Sun>=1 2:00 0 S\n"

// E1: all turns of a name, of all of its rules.
func TestTimes(t *testing.T) {
	eu := timesOf(t, rulesOf(t, european), "eu", hour)
	if len(eu) != 120+105 {
		t.Errorf("%d turns; want 225", len(eu))
	}
	for _, want := range []api.Time{
		{At: unix(1981, 3, 29, hour), Save: hour, Letter: "S"},
		{At: unix(1995, 3, 26, hour), Save: hour, Letter: "S"},
		{At: unix(1996, 3, 31, hour), Save: hour, Letter: "S"},
		{At: unix(1996, 10, 27, hour)},
		{At: unix(2020, 3, 29, hour), Save: hour, Letter: "S"},
		{At: unix(2100, 10, 31, hour)},
	} {
		if !slices.Contains(eu, want) {
			t.Errorf("%v is missing", want)
		}
	}
	us := timesOf(t, rulesOf(t, american), "us", -5*hour)
	want := []api.Time{
		{At: unix(1967, 4, 30, 7*hour), Save: hour, Letter: "D"},
		{At: unix(1967, 10, 29, 6*hour), Letter: "S"},
		{At: unix(1968, 4, 28, 7*hour), Save: hour, Letter: "D"},
	}
	if len(us) != 40+7+94+94 || !slices.Equal(us[:3], want) {
		t.Errorf("%d turns, first %v; want %v", len(us), us[:3], want)
	}
	// From 1974 to 2006 there are only turns at which nothing was saved ahead already.
	if i := slices.Index(us, api.Time{At: unix(1975, 10, 26, 7*hour), Letter: "S"}); i != 15 {
		t.Errorf("that of 1975 is at %d; want 15", i)
	}
}

// E1: by each kind of clock, with something saved ahead, or nothing, or none ahead.
func TestClocks(t *testing.T) {
	for _, c := range []struct {
		clock       int
		first, next int
	}{
		{api.ClockWall, 100 + 7*hour, 100 + 7*hour - 1800},
		{api.ClockStandard, 100 + 7*hour, 100 + 7*hour},
		{api.ClockUniversal, 100, 100},
	} {
		for _, ahead := range []int{api.ClockWall, api.ClockStandard, api.ClockUniversal} {
			l := []api.Rule{
				onDay(2000, 2000, 3, 1, 100, c.clock, 900),
				onDay(2000, 2000, 5, 1, 0, ahead, 1800),
				onDay(2000, 2000, 7, 1, 100, c.clock, 0),
				onDay(2000, 2000, 9, 1, 100, c.clock, 2700),
			}
			times := timesOf(t, l, "a", -7*hour)
			want := []int{unix(2000, 3, 1, c.first), unix(2000, 7, 1, c.next), unix(2000, 9, 1, c.first)}
			got := []int{times[0].At, times[2].At, times[3].At}
			if !slices.Equal(got, want) {
				t.Errorf("clock %d behind %d: %v; want %v", c.clock, ahead, got, want)
			}
		}
	}
}

// E1: On may lead into a month beside it, and into a year beside it; At may be two days later.
func TestDaysBeside(t *testing.T) {
	for _, c := range []struct {
		text string
		want int
	}{
		{"Rule a 2000 only Feb 28 24:00u 0 -", unix(2000, 2, 29, 0)},
		{"Rule a 2000 only Feb lastTue 0u 0 -", unix(2000, 2, 29, 0)},
		{"Rule a 2001 only Feb 28 48:00u 0 -", unix(2001, 3, 2, 0)},
		{"Rule a 2000 only Dec 31 48:00u 0 -", unix(2001, 1, 2, 0)},
		{"Rule a 2000 only Apr Mon>=30 0u 0 -", unix(2000, 5, 1, 0)},
		{"Rule a 2000 only Dec Sat>=31 0:00:01u 0 -", unix(2001, 1, 6, 1)},
		{"Rule a 2000 only Mar Tue<=1 0u 0 -", unix(2000, 2, 29, 0)},
		{"Rule a 2000 only Jan Sun<=1 0u 0 -", unix(1999, 12, 26, 0)},
		{"Rule a 1900 only Jan Sun<=1 0u 0 -", unix(1899, 12, 31, 0)},
		{"Rule a 2100 only Dec Thu>=31 48:00u 0 -", unix(2101, 1, 8, 0)},
		{"Rule a 1970 only Jan 1 0s 0 -", 0},
	} {
		if times := timesOf(t, rulesOf(t, c.text), "a", 0); len(times) != 1 || times[0].At != c.want {
			t.Errorf("%s: %v; want %d", c.text, times, c.want)
		}
	}
}

// E1: in order of how they stand, whatever the order of rules, and the years that they are of.
func TestOrder(t *testing.T) {
	l := rulesOf(t, american)
	want := timesOf(t, l, "us", 0)
	r := rand.New(rand.NewSource(4))
	for range 20 {
		r.Shuffle(len(l), func(i, k int) { l[i], l[k] = l[k], l[i] })
		if got := timesOf(t, l, "us", 0); !slices.Equal(got, want) {
			t.Fatalf("other times of %v", l)
		}
	}
	// That of 2000 stands behind that of 2001, and takes from it what it saves.
	l = rulesOf(t, "Rule a 2000 only Dec Sat>=31 0 0 -\nRule a 2001 only Jan 2 0 1:00 S\n")
	times := timesOf(t, l, "a", 0)
	if !slices.Equal(times, []api.Time{{At: unix(2001, 1, 2, 0), Save: hour, Letter: "S"}, {At: unix(2001, 1, 6, -hour)}}) {
		t.Errorf("they are %v", times)
	}
}

// E1: rules of other names are nothing, but for what is wrong with them.
func TestOtherNames(t *testing.T) {
	l := rulesOf(t, european+american+"Rule e 2000 max Mar 30 0 1:00 X\nRule eur 2000 max Mar 30 0 1:00 X\nRule EU 2000 max Mar 30 0 1:00 X\n")
	if got := timesOf(t, l, "eu", 0); !slices.Equal(got, timesOf(t, rulesOf(t, european), "eu", 0)) {
		t.Errorf("others are among them: %v", got)
	}
}

func checkError(t *testing.T, name string, l []api.Rule, of string, shift int, want api.Errno) {
	t.Helper()
	if times, e := rule.Times(l, of, shift); len(times) != 0 || e != want {
		t.Errorf("%s: %d times, %d; want none, %d", name, len(times), e, want)
	}
}

// faults in the order in which E1 names them, each made of rules that have none so far.
var faults = []struct {
	name string
	do   func(l []api.Rule, name string, shift int) ([]api.Rule, string, int)
	want api.Errno
}{
	{"41 rules", func(l []api.Rule, name string, shift int) ([]api.Rule, string, int) {
		return append(l, make([]api.Rule, 41-len(l))...), name, shift
	}, api.ErrMany},
	{"a wrong rule of another name", func(l []api.Rule, name string, shift int) ([]api.Rule, string, int) {
		wrong := onDay(2000, 2000, 1, 1, 0, 4, 0)
		wrong.Name = "other"
		return append(l, wrong), name, shift
	}, api.ErrKind},
	{"too great a shift", func(l []api.Rule, name string, shift int) ([]api.Rule, string, int) {
		return l, name, api.MaxShift + 1
	}, api.ErrRange},
	{"no such name", func(l []api.Rule, name string, shift int) ([]api.Rule, string, int) {
		return l, "none", shift
	}, api.ErrNone},
	{"less than two days apart", func(l []api.Rule, name string, shift int) ([]api.Rule, string, int) {
		return append(l, onDay(2000, 2000, 1, 10, 0, 3, 0), onDay(2000, 2000, 1, 11, 0, 3, 0)), name, shift
	}, api.ErrState},
	{"too many turns", func(l []api.Rule, name string, shift int) ([]api.Rule, string, int) {
		for month := 3; month <= 7; month++ {
			l = append(l, onDay(1900, 2100, month, 1, 0, 3, 0))
		}
		return l, name, shift
	}, api.ErrMany},
}

// E1, P1: each error; of two, the one that is named first.
func TestErrors(t *testing.T) {
	start := []api.Rule{onDay(2000, 2000, 2, 1, 0, 1, 0)}
	if _, e := rule.Times(start, "a", 0); e != api.OK {
		t.Fatalf("nothing is wrong, but it is %d", e)
	}
	for i, f := range faults {
		l, of, shift := f.do(slices.Clone(start), "a", 0)
		checkError(t, f.name, l, of, shift, f.want)
		for _, g := range faults[i+1:] {
			l, of, shift := g.do(slices.Clone(start), "a", 0)
			l, of, shift = f.do(l, of, shift)
			checkError(t, f.name+", and "+g.name, l, of, shift, f.want)
		}
	}
	checkError(t, "no rules", nil, "a", 0, api.ErrNone)
	checkError(t, "no rules, an empty name", []api.Rule{}, "", 0, api.ErrNone)
	checkError(t, "an empty name", start, "", 0, api.ErrNone)
	checkError(t, "a longer name", start, "a\x00", 0, api.ErrNone)
}

// E1: what is wrong with a rule, as chapter 3 has it; rule by rule.
func TestWrongRules(t *testing.T) {
	for _, c := range []struct {
		name string
		do   func(r *api.Rule)
		want api.Errno
	}{
		{"no name", func(r *api.Rule) { r.Name = "" }, api.ErrForm},
		{"a letter", func(r *api.Rule) { r.Letter = "9" }, api.ErrForm},
		{"From", func(r *api.Rule) { r.From = 1899 }, api.ErrRange},
		{"To", func(r *api.Rule) { r.To = math.MaxInt }, api.ErrRange},
		{"From behind To", func(r *api.Rule) { r.To = r.From - 1 }, api.ErrRange},
		{"a month", func(r *api.Rule) { r.Month = 13 }, api.ErrRange},
		{"a form", func(r *api.Rule) { r.Form.Kind = 9 }, api.ErrKind},
		{"a leap day", func(r *api.Rule) { r.Month, r.Form.N = 2, 29 }, api.ErrRange},
		{"At", func(r *api.Rule) { r.At = -1 }, api.ErrRange},
		{"a clock", func(r *api.Rule) { r.Clock = 0 }, api.ErrKind},
		{"Save", func(r *api.Rule) { r.Save = 10801 }, api.ErrRange},
	} {
		for i := range 2 {
			l := []api.Rule{onDay(2000, 2000, 1, 1, 0, 1, 0), onDay(2000, 2000, 9, 1, 0, 1, 0)}
			c.do(&l[i])
			checkError(t, c.name, l, "a", 0, c.want)
		}
	}
	early, late := onDay(2000, 2000, 1, 1, 0, 1, 0), onDay(2000, 2000, 9, 1, 0, 1, 0)
	early.Save, late.Name = -1, ""
	checkError(t, "Save of the first", []api.Rule{early, late}, "a", 0, api.ErrRange)
	checkError(t, "the name of the first", []api.Rule{late, early}, "a", 0, api.ErrForm)
}

// E1: just as many rules as there may be; the edges of shifts.
func TestLimits(t *testing.T) {
	var l []api.Rule
	for i := range 40 {
		l = append(l, onDay(1900+i, 1900+i, 6, 1, 0, 1, 0))
	}
	if times := timesOf(t, l, "a", 0); len(times) != 40 {
		t.Errorf("%d times; want 40", len(times))
	}
	for _, shift := range []int{-64800, 64800, -1, 1} {
		if times := timesOf(t, l, "a", shift); times[0].At != unix(1900, 6, 1, -shift) {
			t.Errorf("shift %d: %v", shift, times[0])
		}
	}
	for _, shift := range []int{-64801, 64801, math.MinInt, math.MaxInt} {
		checkError(t, "a shift", l, "a", shift, api.ErrRange)
	}
}

// E1: 1000 turns are not too many, 1001 are.
func TestManyTurns(t *testing.T) {
	l := []api.Rule{
		onDay(1900, 2100, 1, 1, 0, 1, 0), onDay(1900, 2100, 3, 1, 0, 1, 0), onDay(1900, 2100, 5, 1, 0, 1, 0),
		onDay(1900, 2100, 7, 1, 0, 1, 0), onDay(1900, 2095, 9, 1, 0, 1, 0),
	}
	if times := timesOf(t, l, "a", 0); len(times) != 1000 {
		t.Errorf("%d times; want 1000", len(times))
	}
	l[4].To++
	checkError(t, "1001 turns", l, "a", 0, api.ErrMany)
	// Others do not count.
	l[4].Name = "b"
	if times := timesOf(t, l, "a", 0); len(times) != 804 {
		t.Errorf("%d times; want 804", len(times))
	}
}

// E1: two days apart, as they stand, by whatever clocks.
func TestApart(t *testing.T) {
	for _, c := range []struct {
		name         string
		early, late  api.Rule
		isFarEnough  bool
		secondsApart int
	}{
		{"two days", onDay(2000, 2000, 5, 1, 50, 1, 0), onDay(2000, 2000, 5, 3, 50, 1, 0), true, 2 * day},
		{"a second less", onDay(2000, 2000, 5, 1, 51, 1, 0), onDay(2000, 2000, 5, 3, 50, 1, 0), false, 0},
		{"a second more", onDay(2000, 2000, 5, 1, 49, 1, 0), onDay(2000, 2000, 5, 3, 50, 1, 0), true, 2*day + 1},
		{"at once", onDay(2000, 2000, 5, 1, 50, 1, 0), onDay(2000, 2000, 5, 1, 50, 1, 0), false, 0},
		{"at once, two days later", onDay(2000, 2000, 5, 1, 2*day, 1, 0), onDay(2000, 2000, 5, 3, 0, 1, 0), false, 0},
		{"by days four, by seconds two", onDay(2000, 2000, 5, 1, 2*day, 1, 0), onDay(2000, 2000, 5, 5, 0, 1, 0), true, 2 * day},
		{"over a year's end", onDay(1999, 1999, 12, 31, 0, 1, 0), onDay(2000, 2000, 1, 1, day, 1, 0), true, 2 * day},
		{"over a year's end, too close", onDay(1999, 1999, 12, 31, 1, 1, 0), onDay(2000, 2000, 1, 1, day, 1, 0), false, 0},
		{"of one year in many", onDay(1950, 2050, 5, 1, 0, 1, 0), onDay(2000, 2000, 5, 2, 0, 1, 0), false, 0},
		// By universal time they would be far enough apart, or too close; it does not count.
		{"another clock", onDay(2000, 2000, 5, 1, 1, 1, 0), onDay(2000, 2000, 5, 3, 0, 3, 0), false, 0},
		{"another clock, far enough", onDay(2000, 2000, 5, 1, 0, 3, 0), onDay(2000, 2000, 5, 3, 0, 2, 0), true, 2*day - 10*hour},
		{"something saved", onDay(2000, 2000, 5, 1, 0, 3, 3*hour), onDay(2000, 2000, 5, 3, 0, 1, 0), true, 2*day - 13*hour},
	} {
		for _, l := range [][]api.Rule{{c.early, c.late}, {c.late, c.early}} {
			if !c.isFarEnough {
				checkError(t, c.name, l, "a", 10*hour, api.ErrState)
				continue
			}
			times := timesOf(t, l, "a", 10*hour)
			if apart := times[1].At - times[0].At; apart != c.secondsApart {
				t.Errorf("%s: %d seconds apart; want %d", c.name, apart, c.secondsApart)
			}
		}
	}
	other := onDay(2000, 2000, 5, 1, 0, 1, 0)
	other.Name = "b"
	timesOf(t, []api.Rule{other, onDay(2000, 2000, 5, 1, 0, 1, 0)}, "a", 0)
}

// E2: times rise, where turns are as close, and shifts and what is saved as great, as may be.
func TestTimesRiseAtTheEdges(t *testing.T) {
	clocks := []int{api.ClockWall, api.ClockStandard, api.ClockUniversal}
	for i := range 27 {
		for _, shift := range []int{-64800, 0, 64800} {
			for _, saves := range [][3]int{{10800, 10800, 10800}, {0, 10800, 0}, {10800, 0, 10800}} {
				l := []api.Rule{
					onDay(2000, 2000, 5, 1, 0, clocks[i%3], saves[0]),
					onDay(2000, 2000, 5, 3, 0, clocks[i/3%3], saves[1]),
					onDay(2000, 2000, 5, 5, 0, clocks[i/9], saves[2]),
				}
				checkRising(t, timesOf(t, l, "a", shift))
			}
		}
	}
}

func checkRising(t *testing.T, times []api.Time) {
	t.Helper()
	for i := 1; i < len(times); i++ {
		if times[i].At <= times[i-1].At {
			t.Fatalf("%v is not behind %v", times[i], times[i-1])
		}
	}
}

func drawRule(r *rand.Rand, name string) api.Rule {
	from := 1900 + r.Intn(201)
	form := api.Form{Kind: 1 + r.Intn(4)}
	if form.Kind != api.FormDay {
		form.Weekday = r.Intn(7)
	}
	if form.Kind != api.FormLast {
		form.N = 1 + r.Intn(28)
	}
	return api.Rule{
		Name: name, From: from, To: from + r.Intn(min(2101-from, 40)), Month: 1 + r.Intn(12), Form: form,
		At: r.Intn(172801), Clock: 1 + r.Intn(3), Save: r.Intn(2) * r.Intn(10801), Letter: string(rune('A' + r.Intn(26))),
	}
}

// turned: the day of a rule in a year, looked for day by day.
func turned(r api.Rule, year int) int {
	d := time.Date(year, time.Month(r.Month), max(r.Form.N, 1), 0, 0, 0, 0, time.UTC)
	by := 1
	switch r.Form.Kind {
	case api.FormLast:
		d, by = time.Date(year, time.Month(r.Month)+1, 0, 0, 0, 0, 0, time.UTC), -1
	case api.FormTo:
		by = -1
	}
	for r.Form.Kind != api.FormDay && int(d.Weekday()) != r.Form.Weekday {
		d = d.AddDate(0, 0, by)
	}
	return int(d.Unix()) + r.At
}

// wanted: the times as the chapter has them, in another way.
func wanted(l []api.Rule, name string, shift int) ([]api.Time, api.Errno) {
	byTime := map[int]api.Rule{}
	var stands []int
	for _, r := range l {
		for year := r.From; r.Name == name && year <= r.To; year++ {
			at := turned(r, year)
			byTime[at] = r
			stands = append(stands, at)
		}
	}
	sort.Ints(stands)
	var times []api.Time
	saved := 0
	for i, at := range stands {
		if i > 0 && at-stands[i-1] < 172800 {
			return nil, api.ErrState
		}
		r := byTime[at]
		times = append(times, api.Time{At: at - []int{0, shift + saved, shift, 0}[r.Clock], Save: r.Save, Letter: r.Letter})
		saved = r.Save
	}
	if len(times) == 0 {
		return nil, api.ErrNone
	}
	return times, api.OK
}

// E1, E2: what any rules say.
func TestAnyRules(t *testing.T) {
	r := rand.New(rand.NewSource(5))
	met := map[api.Errno]int{}
	for range 3000 {
		var l []api.Rule
		for range r.Intn(10) {
			l = append(l, drawRule(r, []string{"a", "a", "b"}[r.Intn(3)]))
		}
		shift := r.Intn(129601) - 64800
		times, e := rule.Times(l, "a", shift)
		want, errno := wanted(l, "a", shift)
		if !slices.Equal(times, want) || e != errno {
			t.Fatalf("Times(%v, a, %d) = %v, %d; want %v, %d", l, shift, times, e, want, errno)
		}
		checkRising(t, times)
		met[e]++
	}
	if met[api.OK] < 500 || met[api.ErrNone] < 100 || met[api.ErrState] < 50 {
		t.Errorf("too few of a kind: %v", met)
	}
}

// P2, P3: what is handed in is only read, the room behind it too; each answer is memory of its own.
func TestMemory(t *testing.T) {
	room := append(rulesOf(t, european), rulesOf(t, american)...)
	before := slices.Clone(room)
	l := room[:2]
	one := timesOf(t, l, "eu", 0)
	want := slices.Clone(one)
	two := timesOf(t, l, "eu", 0)
	rule.Times(l, "none", 0)
	rule.Times(room, "us", 5)
	rule.Times(make([]api.Rule, 41), "us", 5)
	if !reflect.DeepEqual(room, before) {
		t.Errorf("rules were changed: %v", room)
	}
	l[0].Save, l[0].Letter = 1, "changed"
	for i := range two[:cap(two)] {
		two[:cap(two)][i] = api.Time{At: 1, Letter: "changed"}
	}
	if !slices.Equal(one, want) {
		t.Errorf("an answer was changed: %v", one)
	}
	copy(room, before)
	if got := timesOf(t, l, "eu", 0); !slices.Equal(got, want) {
		t.Errorf("a later answer is another: %v", got)
	}
}

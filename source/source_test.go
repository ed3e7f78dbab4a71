package source_test

import (
	"reflect"
	"regexp"
	"slices"
	"strconv"
	"strings"
	"testing"

	"dateline/api"
	"dateline/source"
)

const example = `# an example
Rule eu 1981 max Mar lastSun 1:00u 1:00 S
Rule eu 1996 only Oct Sun<=25 2:30:15s 0 -

Zone Here/Town 0:10 - LMT 1880 Jan 1 0
  1:00 eu CE%sT	1990 Dec 31 24:00u
	-1:00:05 0:30 A/B # the last era
Link Here/Town Old
Rule us 2007 2010 Nov Sun>=1 2:00w 0:20 Std
Zone UTC 0 - UTC
Link UTC Z_1+a-b/c
`

// exampleSource: what the example says.
func exampleSource() api.Source {
	return api.Source{
		Rules: []api.Rule{
			{Name: "eu", From: 1981, To: 2100, Month: 3, Form: api.Form{Kind: api.FormLast}, At: 3600, Clock: api.ClockUniversal, Save: 3600, Letter: "S"},
			{Name: "eu", From: 1996, To: 1996, Month: 10, Form: api.Form{Kind: api.FormTo, N: 25}, At: 9015, Clock: api.ClockStandard},
			{Name: "us", From: 2007, To: 2010, Month: 11, Form: api.Form{Kind: api.FormFrom, N: 1}, At: 7200, Clock: api.ClockWall, Save: 1200, Letter: "Std"},
		},
		Zones: []api.Zone{
			{Name: "Here/Town", Eras: []api.Era{
				{Shift: 600, Format: "LMT", Until: api.Until{Date: api.Date{Year: 1880, Month: 1, Day: 1}, Clock: api.ClockStandard}},
				{Shift: 3600, Rules: "eu", Format: "CE%sT", Until: api.Until{Date: api.Date{Year: 1990, Month: 12, Day: 31}, At: 86400, Clock: api.ClockUniversal}},
				{Shift: -3605, Save: 1800, Format: "A/B", Open: true},
			}},
			{Name: "UTC", Eras: []api.Era{{Format: "UTC", Open: true}}},
		},
		Links: []api.Link{{To: "Here/Town", Name: "Old"}, {To: "UTC", Name: "Z_1+a-b/c"}},
	}
}

// same tells whether sources are the same; whether an empty list is nil does not count.
func same(s, t api.Source) bool {
	return slices.Equal(s.Rules, t.Rules) && slices.Equal(s.Links, t.Links) &&
		slices.EqualFunc(s.Zones, t.Zones, func(y, z api.Zone) bool {
			return y.Name == z.Name && slices.Equal(y.Eras, z.Eras)
		})
}

func isEmpty(s api.Source) bool { return same(s, api.Source{}) }

// parsed: the source of a text that there must be one of.
func parsed(t *testing.T, text string) api.Source {
	t.Helper()
	s, n, e := source.Parse(text)
	if n != 0 || e != api.OK {
		t.Fatalf("Parse(%q): %d, %d", text, n, e)
	}
	return s
}

// C1: what lines say, whatever stands between them.
func TestParse(t *testing.T) {
	if s := parsed(t, example); !same(s, exampleSource()) {
		t.Errorf("it is %v; want %v", s, exampleSource())
	}
	for _, text := range []string{"", "\n\n", "# nothing\n \t\n"} {
		if s := parsed(t, text); !isEmpty(s) {
			t.Errorf("Parse(%q) = %v; want nothing", text, s)
		}
	}
	quoted := parsed(t, `"Zone" "A" "-1:00" "-" "X"`)
	want := api.Source{Zones: []api.Zone{{Name: "A", Eras: []api.Era{{Shift: -3600, Format: "X", Open: true}}}}}
	if !same(quoted, want) {
		t.Errorf("between quotes it is %v; want %v", quoted, want)
	}
}

func ruleText(month, on, at, save, letter string) string {
	return strings.Join([]string{"Rule a 1999 only", month, on, at, save, letter}, " ")
}

func ruleOf(t *testing.T, text string) api.Rule {
	t.Helper()
	return parsed(t, text).Rules[0]
}

func eraOf(t *testing.T, text string) api.Era {
	t.Helper()
	return parsed(t, text).Zones[0].Eras[0]
}

// C1: FROM and TO.
func TestYearsOfRules(t *testing.T) {
	for _, c := range []struct {
		years    string
		from, to int
	}{
		{"1900 only", 1900, 1900},
		{"1900 1900", 1900, 1900},
		{"1900 2100", 1900, 2100},
		{"1999 max", 1999, api.MaxRule},
		{"2100 max", 2100, 2100},
		{"2100 only", 2100, 2100},
		{"1984 1991", 1984, 1991},
	} {
		r := ruleOf(t, "Rule a "+c.years+" Jan 1 0 0 -")
		if r.From != c.from || r.To != c.to {
			t.Errorf("%s: from %d to %d; want from %d to %d", c.years, r.From, r.To, c.from, c.to)
		}
	}
}

// C1: MONTH, of rules and of eras.
func TestMonths(t *testing.T) {
	for i, month := range strings.Fields("Jan Feb Mar Apr May Jun Jul Aug Sep Oct Nov Dec") {
		if r := ruleOf(t, ruleText(month, "1", "0", "0", "-")); r.Month != i+1 {
			t.Errorf("%s is %d of a rule; want %d", month, r.Month, i+1)
		}
		if e := eraOf(t, "Zone A 0 - X 2000 "+month+" 1 0\n 0 - Y"); e.Until.Date.Month != i+1 {
			t.Errorf("%s is %d of an era; want %d", month, e.Until.Date.Month, i+1)
		}
	}
}

// C1: ON.
func TestForms(t *testing.T) {
	check := func(on string, want api.Form) {
		if r := ruleOf(t, ruleText("Jan", on, "0", "0", "-")); r.Form != want {
			t.Errorf("%s is %v; want %v", on, r.Form, want)
		}
	}
	for i, weekday := range strings.Fields("Sun Mon Tue Wed Thu Fri Sat") {
		check("last"+weekday, api.Form{Kind: api.FormLast, Weekday: i})
		check(weekday+">=1", api.Form{Kind: api.FormFrom, Weekday: i, N: 1})
		check(weekday+">=31", api.Form{Kind: api.FormFrom, Weekday: i, N: 31})
		check(weekday+"<=09", api.Form{Kind: api.FormTo, Weekday: i, N: 9})
	}
	check("1", api.Form{Kind: api.FormDay, N: 1})
	check("07", api.Form{Kind: api.FormDay, N: 7})
	check("31", api.Form{Kind: api.FormDay, N: 31})
}

// C1: AT and TIME, with each kind of clock.
func TestTimes(t *testing.T) {
	for _, c := range []struct {
		text string
		want int
	}{
		{"0", 0}, {"0:00", 0}, {"00:00", 0}, {"0:00:00", 0}, {"0:00:01", 1}, {"0:01", 60}, {"1:00", 3600}, {"01:00", 3600},
		{"2:34:56", 9296}, {"23:59:59", 86399}, {"24:00", 86400}, {"48:00", 172800}, {"47:59:59", 172799},
	} {
		for sign, kind := range map[string]int{"": api.ClockWall, "w": api.ClockWall, "s": api.ClockStandard, "u": api.ClockUniversal} {
			if r := ruleOf(t, ruleText("Jan", "1", c.text+sign, "0", "-")); r.At != c.want || r.Clock != kind {
				t.Errorf("AT %s%s is %d by %d; want %d by %d", c.text, sign, r.At, r.Clock, c.want, kind)
			}
		}
		for sign, kind := range map[string]int{"": api.ClockStandard, "s": api.ClockStandard, "u": api.ClockUniversal} {
			if u := eraOf(t, "Zone A 0 - X 2000 Jan 1 "+c.text+sign+"\n 0 - Y").Until; u.At != c.want || u.Clock != kind {
				t.Errorf("TIME %s%s is %d by %d; want %d by %d", c.text, sign, u.At, u.Clock, c.want, kind)
			}
		}
	}
}

// C1: SAVE, SHIFT and RULES.
func TestSavesAndShifts(t *testing.T) {
	for _, c := range []struct {
		text string
		want int
	}{
		{"0", 0}, {"0:00", 0}, {"0:30", 1800}, {"1:00", 3600}, {"01:02:03", 3723}, {"3:00", 10800}, {"3:00:00", 10800},
	} {
		if r := ruleOf(t, ruleText("Jan", "1", "0", c.text, "-")); r.Save != c.want {
			t.Errorf("SAVE %s is %d; want %d", c.text, r.Save, c.want)
		}
		if e := eraOf(t, "Zone A "+c.text+" - X"); e.Shift != c.want {
			t.Errorf("SHIFT %s is %d; want %d", c.text, e.Shift, c.want)
		}
		if e := eraOf(t, "Zone A -"+c.text+" - X"); e.Shift != -c.want {
			t.Errorf("SHIFT -%s is %d; want %d", c.text, e.Shift, -c.want)
		}
		if c.text == "0" {
			continue
		}
		if e := eraOf(t, "Zone A 0 "+c.text+" X"); e.Save != c.want || e.Rules != "" {
			t.Errorf("RULES %s is %q, %d; want %d", c.text, e.Rules, e.Save, c.want)
		}
	}
	for text, want := range map[string]string{"-": "", "a": "a", "A-0": "A-0", "b/_+9": "b/_+9"} {
		if e := eraOf(t, "Zone A 0 "+text+" X"); e.Rules != want || e.Save != 0 {
			t.Errorf("RULES %s is %q, %d; want %q", text, e.Rules, e.Save, want)
		}
	}
}

// C1: LETTER and FORMAT.
func TestLettersAndFormats(t *testing.T) {
	for text, want := range map[string]string{"-": "", "S": "S", "Summer": "Summer", strings.Repeat("z", 24): strings.Repeat("z", 24)} {
		if r := ruleOf(t, ruleText("Jan", "1", "0", "0", text)); r.Letter != want {
			t.Errorf("LETTER %s is %q; want %q", text, r.Letter, want)
		}
	}
	for _, format := range []string{"X", "%s", "%sx", "x%s", "C%sT", "a/b", "+1/-2", "-", "+", "07", "%s" + strings.Repeat("9", 22)} {
		if e := eraOf(t, "Zone A 0 - "+format); e.Format != format {
			t.Errorf("FORMAT %s is %q", format, e.Format)
		}
	}
}

// forms of fields, as the chapter has them, by expressions.
const (
	nameForm   = `[A-Za-z][A-Za-z0-9_/+-]*`
	timeForm   = `(?:0|[0-9]{1,2}:[0-5][0-9](?::[0-5][0-9])?)`
	dayForm    = `[0-9]{1,2}`
	weekForm   = `(?:Sun|Mon|Tue|Wed|Thu|Fri|Sat)`
	plainForm  = `[A-Za-z0-9+-]`
	onForm     = dayForm + `|last` + weekForm + `|` + weekForm + `[<>]=` + dayForm
	formatForm = plainForm + `*%s` + plainForm + `*|` + plainForm + `+/` + plainForm + `+|` + plainForm + `+`
)

// places of fields of each form: # stands for the field; text(s) are the lines.
var places = []struct{ form, text, signs string }{
	{nameForm, "Rule # 1999 only Feb 1 0 0 -", "aZ09_-/+%.:"},
	{nameForm, "Zone # 0 - X", "aZ09_-/+%.:"},
	{nameForm, "Link # B", "aZ09_-/+%.:"},
	{nameForm, "Link B #", "aZ09_-/+%.:"},
	{`[0-9]{4}`, "Rule a # 2000 Feb 1 0 0 -", "019-+a"},
	{`[0-9]{4}|only|max`, "Rule a 1999 # Feb 1 0 0 -", "019-+a"},
	{`[0-9]{4}`, "Zone A 0 - X # Jan 1 0\n 0 - Y", "019-+a"},
	{dayForm, "Zone A 0 - X 2000 Jan # 0\n 0 - Y", "0139-+a"},
	{onForm, "Rule a 1999 only Feb # 0 0 -", "0139-+a"},
	{timeForm + `[wsu]?`, "Rule a 1999 only Feb 1 # 0 -", "0156:wsu-"},
	{timeForm + `[su]?`, "Zone A 0 - X 2000 Jan 1 #\n 0 - Y", "0156:wsu-"},
	{timeForm, "Rule a 1999 only Feb 1 0 # -", "0156:ws-+"},
	{`-?` + timeForm, "Zone A # - X", "0156:ws-+"},
	{`-|` + nameForm + `|` + timeForm, "Zone A 0 # X", "0156:as-+"},
	{`-|[A-Za-z]+`, "Rule a 1999 only Feb 1 0 0 #", "azAZ0-%/"},
	{formatForm, "Zone A 0 - #", "a0+-%s/_"},
}

// eachText of at most so many of these signs.
func eachText(signs string, most int, do func(s string)) {
	var goOn func(s string)
	goOn = func(s string) {
		do(s)
		if len(s) == most {
			return
		}
		for i := range len(signs) {
			goOn(s + signs[i:i+1])
		}
	}
	goOn("")
}

// tryField: ErrForm at the first line, if the field is none of its form; else never ErrForm.
func tryField(t *testing.T, form *regexp.Regexp, text, field string) {
	t.Helper()
	isForm := form.MatchString(field) && !(field == "0" && strings.Contains(text, "0 # X"))
	s, n, e := source.Parse(strings.Replace(text, "#", `"`+field+`"`, 1))
	if isForm == (e == api.ErrForm) || e == api.ErrForm && n != 1 || e != api.ErrForm && n != 0 {
		t.Fatalf("%q in %q: %d, %d; of its form: %v", field, text, n, e, isForm)
	}
	if e != api.OK && !isEmpty(s) {
		t.Fatalf("%q in %q: %v with an error", field, text, s)
	}
}

// C1, C2: all short fields of the signs that matter, in each place.
func TestFieldsOfAllForms(t *testing.T) {
	for _, p := range places {
		form := regexp.MustCompile(`^(?:` + p.form + `)$`)
		eachText(p.signs, 4, func(s string) { tryField(t, form, p.text, s) })
		if strings.Contains(p.form, ":") {
			eachText("06:s", 7, func(s string) { tryField(t, form, p.text, s) })
		}
		for _, s := range []string{"10:00:00", "1:00:60", "1:60:00", "1:00:00:00", "100:00", "1:00:0", "1:00:000", ":00", "1:", "1:0", "a b", "+1:00", "--1:00", "12345", "only", "max", "Only", "onlyx", "maxx", "xmax", "lastSun", "last", "lastsun", "LastSun", "lastSunx", "lastSunday", "Sun", "Sun>=1", "Sun<=1", "Sun>=01", "Sun>=", "Sun>=111", "Sun>1", "Sun=1", "Sun=>1", "Sun==1", "sun>=1", "Xxx>=1", "Sun>=1x", "Sun>=-1", "%d", "%", "s%", "%S", "%%s", "%s%s", "a/b/c", "/", "//", "%s/", "/%s", "a/%s", "x%sy/z", "\t", "~", "1e3", "0x10", "+1"} {
			tryField(t, form, p.text, s)
		}
	}
}

// C1, C2: MONTH is one of twelve words.
func TestNoMonths(t *testing.T) {
	for _, month := range []string{"", "jan", "JAN", "January", "Ja", "1", "Sun", "Jan1", "-", "Febr"} {
		for _, text := range []string{"Rule a 1999 only # 1 0 0 -", "Zone A 0 - X 2000 # 1 0\n 0 - Y"} {
			text = strings.Replace(text, "#", strconv.Quote(month), 1)
			if _, n, e := source.Parse(text); n != 1 || e != api.ErrForm {
				t.Errorf("%q: %d, %d; want ErrForm", text, n, e)
			}
		}
	}
}

// C2: errors, and the numbers of their lines.
func TestParseErrors(t *testing.T) {
	const rule = "Rule a 1999 only Feb 1 0 0 -"
	for _, c := range []struct {
		text   string
		number int
		want   api.Errno
	}{
		// those of Split, ahead of all others
		{strings.Repeat("\n", 8001), 0, api.ErrMany},
		{"Bad\n\"", 2, api.ErrForm},
		{"Bad\n" + strings.Repeat("x", 25), 2, api.ErrMany},
		{"Bad\n" + strings.Repeat("x ", 13), 2, api.ErrMany},
		{"Bad" + strings.Repeat("\na", 200), 0, api.ErrMany},
		{"Link A B\nLink A \x7f\nBad", 2, api.ErrForm},

		// none of these lines
		{"rule a 1999 only Feb 1 0 0 -", 1, api.ErrForm},
		{"Rules a 1999 only Feb 1 0 0 -", 1, api.ErrForm},
		{"Rule1 a 1999 only Feb 1 0 0 -", 1, api.ErrForm},
		{"\n\n" + `""`, 3, api.ErrForm},
		{"Rule", 1, api.ErrForm},
		{"Rule a 1999 only Feb 1 0 0", 1, api.ErrForm},
		{rule + " -", 1, api.ErrForm},
		{"Zone", 1, api.ErrForm},
		{"Zone A", 1, api.ErrForm},
		{"Zone A 0", 1, api.ErrForm},
		{"Zone A 0 -", 1, api.ErrForm},
		{"Zone A 0 - X 2000", 1, api.ErrForm},
		{"Zone A 0 - X 2000 Jan", 1, api.ErrForm},
		{"Zone A 0 - X 2000 Jan 1", 1, api.ErrForm},
		{"Zone A 0 - X 2000 Jan 1 0 0", 1, api.ErrForm},
		{"Link", 1, api.ErrForm},
		{"Link A", 1, api.ErrForm},
		{"Link A B C", 1, api.ErrForm},

		// lines that may not stand there
		{" " + rule, 1, api.ErrForm},
		{"\tZone A 0 - X", 1, api.ErrForm},
		{" Link A B", 1, api.ErrForm},
		{" 0 - X", 1, api.ErrForm},
		{"0 - X", 1, api.ErrForm},
		{"Zone A 0 - X\n 0 - Y", 2, api.ErrForm},
		{"Zone A 0 - X 2000 Jan 1 0\n 0 - Y\n 0 - Z", 3, api.ErrForm},
		{"Zone A 0 - X 2000 Jan 1 0\n0 - Y", 2, api.ErrForm},
		{"Zone A 0 - X 2000 Jan 1 0\n\n#\nLink A B\n 0 - Y", 4, api.ErrForm},
		{"Zone A 0 - X 2000 Jan 1 0\nZone B 0 - Y", 2, api.ErrForm},
		{"Zone A 0 - X 2000 Jan 1 0\n Link A B", 2, api.ErrForm},
		{"Zone A 0 - X 2000 Jan 1 0\n Zone A 0 - X", 2, api.ErrForm},
		{"Zone A 0 - X 2000 Jan 1 0\n " + rule, 2, api.ErrForm},
		{"Zone A 0 - X 2000 Jan 1 0\n 0 - Y 2001", 2, api.ErrForm},
		{"Zone A 0 - X 2000 Jan 1 0\n 0 - Y 2001 Jan 1 0 0", 2, api.ErrForm},
		{"Zone A 0 - X 2000 Jan 1 0\n 0 -", 2, api.ErrForm},

		// an era must come behind the last line
		{"Zone A 0 - X 2000 Jan 1 0", 0, api.ErrForm},
		{"Zone A 0 - X 2000 Jan 1 0\n\n#\n", 0, api.ErrForm},
		{"Zone A 0 - X 2000 Jan 1 0\n 0 - Y 2001 Jan 1 0\n", 0, api.ErrForm},

		// the first line tells
		{"Link A\nLink", 1, api.ErrForm},
		{"Link A B\nLink\nLink", 2, api.ErrForm},

		// what Check says, behind all that is wrong of a line
		{"Rule a 1899 only Feb 1 0 0 -", 0, api.ErrRange},
		{"Rule a 1899 only Feb 1 0 0 -\nLink", 2, api.ErrForm},
		{"Rule a 1899 only Feb 1 0 0 -\nZone A 0 - X 2000 Jan 1 0", 0, api.ErrForm},
		{"Rule a 0000 only Feb 1 0 0 -", 0, api.ErrRange},
		{"Rule a 1999 1998 Feb 1 0 0 -", 0, api.ErrRange},
		{"Rule a 1999 2101 Feb 1 0 0 -", 0, api.ErrRange},
		{"Rule a 2000 only Feb 29 0 0 -", 0, api.ErrRange},
		{"Rule a 2000 only Feb 0 0 0 -", 0, api.ErrRange},
		{"Rule a 2000 only Jun Sun<=31 0 0 -", 0, api.ErrRange},
		{"Rule a 2000 only Jun 1 48:00:01 0 -", 0, api.ErrRange},
		{"Rule a 2000 only Jun 1 0 3:00:01 -", 0, api.ErrRange},
		{"Zone A 18:00:01 - X", 0, api.ErrRange},
		{"Zone A -18:00:01 - X", 0, api.ErrRange},
		{"Zone A 0 99:59:59 X", 0, api.ErrRange},
		{"Zone A 0 - X 0000 Jan 1 0\n 0 - Y", 0, api.ErrRange},
		{"Zone A 0 - X 2001 Feb 29 0\n 0 - Y", 0, api.ErrRange},
		{"Zone A 0 - X 2001 Feb 1 48:00:01u\n 0 - Y", 0, api.ErrRange},
		{strings.Repeat(rule+"\n", 41), 0, api.ErrMany},
		{strings.Repeat("Zone A 0 - X\n", 21), 0, api.ErrMany},
		{"Zone A 0 - X 2001 Feb 1 0\n" + strings.Repeat(" 0 - X 2001 Feb 1 0\n", 7) + " 0 - X", 0, api.ErrMany},
		{strings.Repeat("Link A B\n", 21), 0, api.ErrMany},
		{"Rule a 1899 only Feb 1 0 0 -\n" + strings.Repeat("Link A B\n", 21), 0, api.ErrMany},
	} {
		s, n, e := source.Parse(c.text)
		if !isEmpty(s) || n != c.number || e != c.want {
			t.Errorf("Parse(%.80q) = %v, %d, %d; want nothing, %d, %d", c.text, s, n, e, c.number, c.want)
		}
	}
}

// C1, C3: just as many as there may be, and dates at both ends.
func TestParseLimits(t *testing.T) {
	for _, text := range []string{
		strings.Repeat("Rule a 1999 only Feb 28 48:00 3:00 -\n", 40),
		strings.Repeat("Zone A 18:00 - X\n", 20),
		strings.Repeat("Link A B\n", 20),
		strings.Repeat("Zone A -18:00 3:00 X 0001 Jan 1 0\n"+strings.Repeat(" 0 - X 9999 Dec 31 48:00\n", 6)+" 0 - X\n", 20),
		"Rule " + strings.Repeat("a", 24) + " 1900 2100 Dec Sat>=31 0 0 " + strings.Repeat("Z", 24),
	} {
		if s := parsed(t, text); source.Check(s) != api.OK {
			t.Errorf("%.40q is parsed to what Check says %d of", text, source.Check(s))
		}
	}
}

// P2: lists of an answer share no memory with each other, nor do two answers.
func TestParsedListsAreApart(t *testing.T) {
	const text = "Zone A 0 - X 2000 Jan 1 0\n 0 - Y\nZone B 0 - X 2000 Jan 1 0\n 0 - Y 2001 Jan 1 0\n 0 - Z\nZone C 0 - X\n"
	s, other := parsed(t, text), parsed(t, text)
	for i := range s.Zones {
		eras := s.Zones[i].Eras
		for k := range eras[:cap(eras)] {
			eras[:cap(eras)][k] = api.Era{Format: "changed"}
		}
		for k := i + 1; k < len(s.Zones); k++ {
			if !slices.Equal(s.Zones[k].Eras, other.Zones[k].Eras) {
				t.Errorf("zone %d changed with zone %d", k, i)
			}
		}
	}
	if !same(other, parsed(t, text)) {
		t.Errorf("another answer changed: %v", other)
	}
}

// P3: what was asked in between changes no answer, errors least of all.
func TestAnswersStay(t *testing.T) {
	for _, between := range []string{"", "\"", "Zone A 0 - X 2000 Jan 1 0", "Rule", "Link A B", strings.Repeat("Link A B\n", 21)} {
		source.Parse(between)
		source.Check(api.Source{Rules: make([]api.Rule, 1)})
		if s := parsed(t, example); !reflect.DeepEqual(s, exampleSource()) {
			t.Errorf("behind %q it is %v", between, s)
		}
	}
}

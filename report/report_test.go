package report_test

import (
	"math/rand"
	"regexp"
	"slices"
	"strconv"
	"strings"
	"testing"
	"time"

	"dateline/api"
	"dateline/report"
	"dateline/source"
	"dateline/zone"
)

const example = "Rule eu 1981 max Mar lastSun 1:00u 1:00 S\nRule eu 1996 max Oct lastSun 1:00u 0 -\nZone Here/Town 0:10 - LMT 1880 Jan 1 0\n  1:00 eu CE%sT\nLink Here/Town Old\n"

// The first and the last second of years from MinYear to MaxYear.
const (
	firstTime = -62135596800
	lastTime  = 253402300799
)

// checkAnswer to one question, by Answer and, behind an upgrade from any text, by Upgrade.
func checkAnswer(t *testing.T, text, question, want string) {
	t.Helper()
	if l, e := report.Answer(text, []string{question}); !slices.Equal(l, []string{want}) || e != api.OK {
		t.Errorf("%q: Answer = %q, %d; want %q", question, l, e, want)
	}
	for _, elder := range []string{"", example, text} {
		if l, e := report.Upgrade(elder, text, []string{question}); !slices.Equal(l, []string{want}) || e != api.OK {
			t.Errorf("%q: Upgrade = %q, %d; want %q", question, l, e, want)
		}
	}
}

// L1: what clocks show at a time.
func TestAt(t *testing.T) {
	const text = example + "Zone East 18:00 - E+18\nZone West -18:00 - W-18\nZone Utc 0 - UTC\nZone Both 0 eu A/B\nZone Kept 0 0:00:01 K\n"
	for _, c := range []struct{ question, want string }{
		{"Here/Town at 1585443599", "2020-03-29 01:59:59 CET"},
		{"Here/Town at 1585443600", "2020-03-29 03:00:00 CEST"},
		{"Old at 1585443600", "2020-03-29 03:00:00 CEST"},
		{"Old at -2840141401", "1879-12-31 23:59:59 LMT"},
		{"Old at -2840141400", "1880-01-01 00:50:00 CET"},
		{"Both at 1585443599", "2020-03-29 00:59:59 A"},
		{"Both at 1585443600", "2020-03-29 02:00:00 B"},
		{"Kept at 0", "1970-01-01 00:00:01 K"},
		{"Utc at 0", "1970-01-01 00:00:00 UTC"},
		{"Utc at -1", "1969-12-31 23:59:59 UTC"},
		{"Utc at 36000", "1970-01-01 10:00:00 UTC"},
		{"Utc at 3661", "1970-01-01 01:01:01 UTC"},
		{"Utc at 951782400", "2000-02-29 00:00:00 UTC"},
		{"Utc at -62135596800", "0001-01-01 00:00:00 UTC"},
		{"Utc at -62135596801", "out"},
		{"Utc at -30641760001", "0998-12-31 23:59:59 UTC"},
		{"Utc at -61000000000", "0036-12-26 11:33:20 UTC"},
		{"Utc at 253402300799", "9999-12-31 23:59:59 UTC"},
		{"Utc at 253402300800", "out"},
		{"Utc at 999999999999", "out"},
		{"Utc at -999999999999", "out"},
		{"East at 253402235999", "9999-12-31 23:59:59 E+18"},
		{"East at 253402236000", "out"},
		{"East at -62135596800", "0001-01-01 18:00:00 E+18"},
		{"East at -62135596801", "out"},
		{"West at -62135532000", "0001-01-01 00:00:00 W-18"},
		{"West at -62135532001", "out"},
		{"West at 253402300799", "9999-12-31 05:59:59 W-18"},
		{"West at 253402300800", "out"},
	} {
		checkAnswer(t, text, c.question, c.want)
	}
}

// L1: when clocks show something.
func TestWhen(t *testing.T) {
	const text = example + "Zone Utc 0 - UTC\nZone Back 2:00 - A 2000 Jan 1 0u\n 1:00 - B 2000 Jan 1 0:30u\n 0 - C\nZone East 18:00 - E\n"
	for _, c := range []struct{ question, want string }{
		{"Here/Town when 2020-03-29 02:30:00", "never"},
		{"Here/Town when 2020-03-29 02:00:00", "never"},
		{"Here/Town when 2020-03-29 01:59:59", "1585443599"},
		{"Old when 2020-03-29 03:00:00", "1585443600"},
		{"Here/Town when 2020-10-25 02:30:00", "1603585800 1603589400"},
		{"Back when 2000-01-01 01:15:00", "946682100 946685700 946689300"},
		{"Back when 2000-01-01 01:29:59", "946682999 946686599 946690199"},
		{"Back when 2000-01-01 01:30:00", "946683000 946690200"},
		{"Back when 2000-01-01 01:00:00", "946681200 946684800 946688400"},
		{"Utc when 1970-01-01 00:00:00", "0"},
		{"Utc when 1969-12-31 23:59:59", "-1"},
		{"Utc when 0001-01-01 00:00:00", "-62135596800"},
		{"Utc when 9999-12-31 23:59:59", "253402300799"},
		{"Utc when 2000-02-29 01:02:03", "951786123"},
		{"East when 0001-01-01 17:59:59", "never"},
		{"East when 0001-01-01 18:00:00", "-62135596800"},
		{"Utc when 2000-02-30 00:00:00", "out"},
		{"Utc when 2001-02-29 00:00:00", "out"},
		{"Utc when 2000-00-01 00:00:00", "out"},
		{"Utc when 2000-13-01 00:00:00", "out"},
		{"Utc when 2000-01-00 00:00:00", "out"},
		{"Utc when 2000-04-31 00:00:00", "out"},
		{"Utc when 0000-01-01 00:00:00", "out"},
		{"Utc when 9999-99-99 99:99:99", "out"},
		{"Utc when 2000-01-01 24:00:00", "out"},
		{"Utc when 2000-01-01 23:60:00", "out"},
		{"Utc when 2000-01-01 23:59:60", "out"},
		// They would be seconds of that day.
		{"Utc when 2000-01-01 00:60:00", "out"},
		{"Utc when 2000-01-01 00:00:60", "out"},
		{"Utc when 2000-01-01 00:99:99", "out"},
	} {
		checkAnswer(t, text, c.question, c.want)
	}
}

// L1: what is no question; that comes first of all, then that there is no such name, then that something is out.
func TestWhat(t *testing.T) {
	for _, question := range []string{
		"", " ", "#", "Old", "Old at", "Old when", "at 5", "Old at 5 6", "Old at 5 x", `Old at 5 ""`, "Old now 5", "Old At 5", "Old AT 5", "Old a 5", "Old att 5", `Old "" 5`, `Old "at " 5`,
		"Old when 2020-01-01", "Old when 00:00:00", "Old when 2020-01-01 00:00:00 x", "Old at 2020-01-01 00:00:00", "Old when 5", "Old 2020-01-01 00:00:00", "Old at when 2020-01-01 00:00:00",
		`Old when "2020-01-01 00:00:00"`, `Old when 2020-01-01 "00:00:00 "`, "Old when 00:00:00 2020-01-01", "Old when 2020-01-01T00:00:00",
		" Old at 5", "\tOld at 5", "Old at 5\n", "\nOld at 5", "Old at 5\n\n", "Old\nat 5", "Old at 5 #\n", "Old at 5\nOld at 5", "Old at 5\r", "#\nOld at 5",
		"9 at 5", "-Old at 5", `"Old " at 5`, `"" at 5`, "Old. at 5", "_ at 5", "Here\\Town at 5", "\xc3\x84 at 5", "Old\x00 at 5", strings.Repeat("n", 25) + " at 5",
		`Old at "5`, `Old at 5"`, `"Old"at 5`, "Old at \x7f", "a b c d e f g h i j k l m", "Old at 5" + strings.Repeat(" ", 7993), strings.Repeat("#", 8001),
		"Old at 05", "Old at -0", "Old at 00", "Old at -05", "Old at +5", "Old at --5", "Old at -", "Old at 5-", "Old at 5.0", "Old at 5e3", "Old at 0x5", "Old at 1_0", "Old at x", `Old at ""`, `Old at " 5"`, "Old at 1234567890123", "Old at -1234567890123", "Old at 0000000000005", "Old at 18446744073709551621", "Old at \xd9\xa5",
		"Old when 2020-1-01 00:00:00", "Old when 2020-01-1 00:00:00", "Old when 202-01-01 00:00:00", "Old when 02020-01-01 00:00:00", "Old when 2020-001-01 00:00:00", "Old when 2020-01-001 00:00:00", "Old when 2020-01 00:00:00", "Old when 2020-01-01- 00:00:00", "Old when -2020-01-01 00:00:00", "Old when 2020/01/01 00:00:00", "Old when 2020-01:01 00:00:00", "Old when 20200101 00:00:00", "Old when 2020-+1-01 00:00:00", "Old when 2020--1-01 00:00:00", "Old when 2020-Jan-01 00:00:00", "Old when 2020-01-0a 00:00:00",
		"Old when 2020-01-01 0:00:00", "Old when 2020-01-01 00:0:00", "Old when 2020-01-01 00:00:0", "Old when 2020-01-01 000:00:00", "Old when 2020-01-01 00:000:00", "Old when 2020-01-01 00:00:000", "Old when 2020-01-01 00:00", "Old when 2020-01-01 00:00:00:00", "Old when 2020-01-01 :00:00:00", "Old when 2020-01-01 00-00-00", "Old when 2020-01-01 000000", "Old when 2020-01-01 -1:00:00", "Old when 2020-01-01 00:+0:00", "Old when 2020-01-01 00:00:0u", "Old when 2020-01-01 0",
		"Old when 2020-13-01 0:00:00", "Old when 2020-1-01 24:00:00",
		"None at 05", "None when 2020-01-01", "None when 2020-13-01 0:00:00",
	} {
		checkAnswer(t, example, question, "what")
	}
	for _, question := range []string{
		"None at 5", "None at 999999999999", "None when 2020-01-01 00:00:00", "None when 2020-13-01 00:00:00", "None when 2020-01-01 24:00:00", "None when 2020-01-01 00:60:00", "None when 2020-01-01 00:00:60",
		"old at 5", "OLD at 5", "Here at 5", "Here/Tow at 5", "Here/Towns at 5", "eu at 5", "CET at 5", "O at 5", strings.Repeat("n", 24) + " at 5", "at at 5", "when when 2020-01-01 00:00:00", "Z_-/+0 at 5",
	} {
		checkAnswer(t, example, question, "none")
		checkAnswer(t, "", question, "none")
	}
	checkAnswer(t, "", "Old at 5", "none")
}

// L1: fields are those of chapter 2.
func TestFieldsOfQuestions(t *testing.T) {
	for _, question := range []string{"Old at 5", "Old\tat\t5", "Old   at \t 5 ", "Old at 5#6", "Old at 5 # \x00\xff \"", `"Old" at 5`, `"Old" "at" "5"`, `Old at "5"#`, "Old at 5" + strings.Repeat(" ", 7992), "Here/Town at 5"} {
		checkAnswer(t, example, question, "1970-01-01 01:00:05 CET")
	}
	for _, question := range []string{`Old when 1970-01-01 01:00:05`, `"Old" "when" "1970-01-01" "01:00:05" # so`, "Old\twhen\t1970-01-01\t01:00:05\t"} {
		checkAnswer(t, example, question, "5")
	}
	for _, question := range []string{"at at 5", "when at 5", "at at 5 #"} {
		checkAnswer(t, "Zone at 0 - X\nLink at when\n", question, "1970-01-01 00:00:05 X")
	}
	checkAnswer(t, "Zone at 0 - X\nLink at when\n", "when when 1970-01-01 00:00:05", "5")
}

// each text of at most so many of these signs.
func each(signs string, most int, do func(s string)) {
	var goOn func(s string)
	goOn = func(s string) {
		do(s)
		if len(s) == most {
			return
		}
		for i := range len(signs) {
			goOn(s + signs[i:i+1])
		}
	}
	goOn("")
}

// L1: which texts are whole numbers.
func TestWholeNumbers(t *testing.T) {
	form := regexp.MustCompile(`^(0|-?[1-9][0-9]{0,11})$`)
	var questions, want []string
	ask := func(s string) {
		questions = append(questions, `Utc at "`+s+`"`)
		n, _ := strconv.Atoi(s)
		switch {
		case !form.MatchString(s):
			want = append(want, "what")
		case n < firstTime || n > lastTime:
			want = append(want, "out")
		default:
			want = append(want, time.Unix(int64(n), 0).UTC().Format("2006-01-02 15:04:05 MST"))
		}
	}
	each("-019", 5, ask)
	for digits := 6; digits <= 24; digits++ {
		for _, first := range []string{"", "-", "0", "-0", "1", "2", "-6", "9"} {
			ask(first + strings.Repeat("1", digits-len(first)))
		}
	}
	for i, l := range slices.Collect(slices.Chunk(questions, 200)) {
		got, e := report.Answer("Zone Utc 0 - UTC\n", l)
		if e != api.OK || !slices.Equal(got, want[200*i:][:len(l)]) {
			t.Fatalf("Answer(%q) = %q, %d; want %q", l, got, e, want[200*i:][:len(l)])
		}
	}
}

// L1: of each sign of a date and a clock, what becomes of the question if another stands there, or none.
func TestDatesAndClocks(t *testing.T) {
	form := regexp.MustCompile(`^[0-9]{4}-[0-9]{2}-[0-9]{2} [0-9]{2}:[0-9]{2}:[0-9]{2}$`)
	const right = "2020-03-29 12:34:56"
	var questions, want []string
	ask := func(s string) {
		questions = append(questions, "Utc when "+s)
		at, err := time.Parse("2006-01-02 15:04:05", s)
		switch {
		case !form.MatchString(s):
			want = append(want, "what")
		case err != nil:
			want = append(want, "out")
		default:
			want = append(want, strconv.FormatInt(at.Unix(), 10))
		}
	}
	for i := range len(right) {
		ask(right[:i] + right[i+1:])
		for _, sign := range "0123456789-:/.+x" {
			ask(right[:i] + string(sign) + right[i+1:])
			ask(right[:i] + string(sign) + right[i:])
		}
	}
	for i, l := range slices.Collect(slices.Chunk(questions, 200)) {
		got, e := report.Answer("Zone Utc 0 - UTC\n", l)
		if e != api.OK || !slices.Equal(got, want[200*i:][:len(l)]) {
			t.Fatalf("Answer(%q) = %q, %d; want %q", l, got, e, want[200*i:][:len(l)])
		}
	}
}

// L1: a text that is wrong has one answer, however many questions there are.
func TestBad(t *testing.T) {
	for _, c := range []struct {
		text string
		want string
	}{
		{"Rule", "1"},
		{"\n\n# a note\nZone A 0 - X\nLink A\n", "5"},
		{"Zone A 0 - X\n 0 - Y\n", "2"},
		{"\x7f", "1"},
		{"Zone A 0 - X\n\"", "2"},
		{"\n\nZone A 0 - X 2000 Jan 1 0", "0"},
		{strings.Repeat("\n", 8001), "0"},
		{strings.Repeat("\n", 7995) + "Zone", "7996"},
		{"Zone A 0 - X\nZone A 0 - X\n", "0"},
		{"Link A B\n", "0"},
		{"Zone A 0 no X\n", "0"},
		{"Zone A 24:00 - X\n", "0"},
		{"Zone A 0 - %s\n", "0"},
		{"Zone Y 0 - Y 1900 Jan 1 0\n 1:00 - Y 1899 Jan 1 0\n 2:00 - Y\n", "0"},
		{"Rule q 2000 max Jan 1 0 1:00 -\nRule q 2000 max Jan 2 0 0 -\nZone Q 0 q Q\n", "0"},
		{strings.Repeat("Zone A 0 - X\n", 21), "0"},
	} {
		for _, questions := range [][]string{nil, {}, {"A at 5"}, {"", "A at 5", "B at 5"}, make([]string, 200)} {
			check := func(what string, want string, got []string, e api.Errno) {
				if !slices.Equal(got, []string{want}) || e != api.OK {
					t.Errorf("%.40q: %s = %q, %d; want %q", c.text, what, got, e, want)
				}
			}
			l, e := report.Answer(c.text, questions)
			check("Answer", "bad "+c.want, l, e)
			for _, other := range []string{"", example, "\n\n\nRule", "Zone A 0 - %s\n", c.text} {
				l, e = report.Upgrade(c.text, other, questions)
				check("Upgrade from it", "bad old "+c.want, l, e)
			}
			for _, other := range []string{"", example} {
				l, e = report.Upgrade(other, c.text, questions)
				check("Upgrade to it", "bad new "+c.want, l, e)
			}
		}
	}
}

// L1, L2, P1: as many questions as there may be, and one more, whatever the texts are.
func TestManyQuestions(t *testing.T) {
	questions := slices.Repeat([]string{"Old at 5"}, 201)
	for _, text := range []string{"", example, "Rule", "Zone A 0 - %s\n"} {
		if l, e := report.Answer(text, questions); len(l) != 0 || e != api.ErrMany {
			t.Errorf("201 questions of %q: %q, %d; want ErrMany", text, l, e)
		}
		for _, other := range []string{"", example, "Rule"} {
			if l, e := report.Upgrade(text, other, questions); len(l) != 0 || e != api.ErrMany {
				t.Errorf("201 questions of %q and %q: %q, %d; want ErrMany", text, other, l, e)
			}
		}
	}
	want := slices.Repeat([]string{"1970-01-01 01:00:05 CET"}, 200)
	if l, e := report.Answer(example, questions[:200]); !slices.Equal(l, want) || e != api.OK {
		t.Errorf("200 questions: %q, %d", l, e)
	}
	if l, e := report.Upgrade("", example, questions[:200]); !slices.Equal(l, want) || e != api.OK {
		t.Errorf("200 questions of Upgrade: %q, %d", l, e)
	}
	for _, none := range [][]string{nil, {}} {
		if l, e := report.Answer(example, none); len(l) != 0 || e != api.OK {
			t.Errorf("no questions: %q, %d", l, e)
		}
		if l, e := report.Upgrade(example, "", none); len(l) != 0 || e != api.OK {
			t.Errorf("no questions of Upgrade: %q, %d", l, e)
		}
	}
	if l, e := report.Answer("", make([]string, 1<<20)); len(l) != 0 || e != api.ErrMany {
		t.Errorf("a great many questions: %d answers, %d", len(l), e)
	}
}

// L1: answers come in the order of the questions, each as if it were the only one.
func TestOrder(t *testing.T) {
	questions := []string{"Old at 1585443600", "what", "None at 5", "Old when 2020-03-29 02:30:00", "Old at 999999999999", "Old at 1585443600", "Old when 2020-10-25 02:30:00"}
	want := []string{"2020-03-29 03:00:00 CEST", "what", "none", "never", "out", "2020-03-29 03:00:00 CEST", "1603585800 1603589400"}
	for range 2 {
		if l, e := report.Answer(example, questions); !slices.Equal(l, want) || e != api.OK {
			t.Errorf("Answer = %q, %d; want %q", l, e, want)
		}
		if l, e := report.Upgrade("Zone Old 0 - X\n", example, questions); !slices.Equal(l, want) || e != api.OK {
			t.Errorf("Upgrade = %q, %d; want %q", l, e, want)
		}
		slices.Reverse(questions)
		slices.Reverse(want)
	}
}

// P2, P3: questions are only read, the room behind them too; answers are the caller's.
func TestMemory(t *testing.T) {
	questions := []string{"Old at 5", "Old when 1970-01-01 01:00:05", "spare"}
	want := []string{"1970-01-01 01:00:05 CET", "5"}
	for range 3 {
		l, e := report.Answer(example, questions[:2])
		m, f := report.Upgrade(example, example, questions[:2])
		if !slices.Equal(l, want) || !slices.Equal(m, want) || e != api.OK || f != api.OK {
			t.Errorf("%q, %d, and %q, %d; want %q", l, e, m, f, want)
		}
		for _, list := range [][]string{l, m} {
			list = list[:cap(list)]
			for i := range list {
				list[i] = "x"
			}
		}
		bad, _ := report.Answer("Rule", questions[:2])
		bad[0] = "x"
		bad, _ = report.Upgrade("", "Rule", questions[:2])
		bad[0] = "x"
		if !slices.Equal(questions, []string{"Old at 5", "Old when 1970-01-01 01:00:05", "spare"}) {
			t.Fatalf("questions were changed: %q", questions)
		}
	}
}

// P1: any bytes.
func TestAnyBytes(t *testing.T) {
	r := rand.New(rand.NewSource(21))
	words := []string{"Old", "Here/Town", "None", "at", "when", "2020-03-29", "02:30:00", "2020-02-30", "24:00:00", "1585443600", "-5", " ", "\t", " ", " ", "\"", "#", "\n", "\xff", "0", ""}
	known := regexp.MustCompile(`^(what|none|out|never|-?[0-9]+( -?[0-9]+)*|[0-9]{4}-[0-9]{2}-[0-9]{2} [0-9]{2}:[0-9]{2}:[0-9]{2} [A-Z]+)$`)
	seen := map[byte]int{}
	for range 300 {
		var questions []string
		for range 50 {
			var q strings.Builder
			q.WriteString(words[r.Intn(3)] + " " + words[3+r.Intn(2)] + " " + words[5+r.Intn(6)])
			for range r.Intn(4) {
				q.WriteString(words[r.Intn(len(words))])
			}
			questions = append(questions, q.String())
		}
		l, e := report.Answer(example, questions)
		if len(l) != 50 || e != api.OK {
			t.Fatalf("%d answers, %d", len(l), e)
		}
		for i := range l {
			if !known.MatchString(l[i]) {
				t.Fatalf("%q: %q", questions[i], l[i])
			}
			seen[l[i][0]]++
		}
	}
	for _, first := range "wno12" {
		if seen[byte(first)] == 0 {
			t.Errorf("no answer begins with %c", first)
		}
	}
}

// L1: what is answered is what At of chapter 6 says, and at each time clocks show what they show then.
func TestHeldAgainstZones(t *testing.T) {
	r := rand.New(rand.NewSource(22))
	for range 40 {
		text := drawText(r)
		s, _, e := source.Parse(text)
		if e != api.OK {
			t.Fatalf("Parse(%q): %d", text, e)
		}
		var questions, want, back, times []string
		for range 100 {
			at := drawTime(r)
			name := []string{"A", "B", "L"}[r.Intn(3)]
			l, e := zone.At(s, name, at)
			if e == api.ErrNone {
				want = append(want, "none")
			} else if shown := time.Unix(int64(at+l.Shift), 0).UTC(); shown.Year() < 1 || shown.Year() > 9999 {
				want = append(want, "out")
			} else {
				want = append(want, shown.Format("2006-01-02 15:04:05 ")+l.Name)
				back = append(back, name+" when "+shown.Format("2006-01-02 15:04:05"))
				times = append(times, strconv.Itoa(at))
			}
			questions = append(questions, name+" at "+strconv.Itoa(at))
		}
		if got, e := report.Answer(text, questions); !slices.Equal(got, want) || e != api.OK {
			t.Fatalf("Answer(%q, %q) = %q, %d; want %q", text, questions, got, e, want)
		}
		got, _ := report.Answer(text, back)
		for i := range times {
			if !slices.Contains(strings.Fields(got[i]), times[i]) {
				t.Fatalf("%q, %q: %q; %s is none of it", text, back[i], got[i], times[i])
			}
		}
	}
}

package report_test

import (
	"math/rand"
	"slices"
	"strconv"
	"strings"
	"testing"
	"time"

	"dateline/api"
	"dateline/civil"
	"dateline/delta"
	"dateline/line"
	"dateline/local"
	"dateline/release"
	"dateline/report"
	"dateline/rule"
	"dateline/show"
	"dateline/source"
	"dateline/table"
	"dateline/wire"
	"dateline/zone"
)

// drawTime of one of the years that there are, most often of those that rules have.
func drawTime(r *rand.Rand) int {
	switch r.Intn(8) {
	case 0:
		return []int{firstTime, firstTime + 1, -1, 0, lastTime - 1, lastTime}[r.Intn(6)]
	case 1:
		return firstTime + int(r.Int63n(lastTime-firstTime+1))
	}
	return int(time.Date(1900+r.Intn(202), 1, 1, 0, 0, r.Intn(366*api.DayTime), 0, time.UTC).Unix())
}

// drawText of rules r and s, the zone A, maybe B, and maybe a link L to one of them.
func drawText(r *rand.Rand) string {
	var text strings.Builder
	number := func(least, most int) string { return strconv.Itoa(least + r.Intn(most-least+1)) }
	one := func(of ...string) string { return of[r.Intn(len(of))] }
	for i, month := range []string{"Jan", "Mar", "May", "Jul", "Sep", "Nov"} {
		from := 1900 + r.Intn(200)
		text.WriteString("Rule " + []string{"r", "s"}[i%2] + " " + strconv.Itoa(from) + " " + one("max", "only", number(from, 2100)) + " " + month + " " + one("lastSun", "Mon>=8", "Sat<=20", number(3, 28)) + " " + number(0, 24) + ":" + number(10, 59) + one("", "s", "u", "w") + " " + one("0", "1:00", "0:20", "2:00") + " " + one("-", "S", "D") + "\n")
	}
	names := []string{"A", "B"}[:1+r.Intn(2)]
	for _, name := range names {
		text.WriteString("Zone " + name)
		for i := range r.Intn(4) {
			text.WriteString(" " + one("", "-") + number(0, 17) + ":" + number(10, 59) + " " + one("-", "1:00", "r", "s") + " " + one("X%sY", "A/B", "C") + " " + strconv.Itoa(1900+50*i+r.Intn(40)) + " Mar " + number(1, 28) + " " + number(0, 24) + ":00" + one("", "u") + "\n")
		}
		text.WriteString(" " + one("", "-") + number(0, 17) + ":00 " + one("-", "1:00", "r", "s") + " " + one("X%sY", "A/B", "C") + "\n")
	}
	if r.Intn(2) == 0 {
		text.WriteString("Link " + one(names...) + " L\n")
	}
	return text.String()
}

// drawnWhole: a text, what it says, and its release.
func drawnWhole(t *testing.T, r *rand.Rand) (string, api.Source, api.Release) {
	t.Helper()
	text := drawText(r)
	s, n, e := source.Parse(text)
	if e != api.OK {
		t.Fatalf("Parse(%q): %d, %d", text, n, e)
	}
	x, e := release.Make(s)
	if e != api.OK {
		t.Fatalf("Make of %q: %d", text, e)
	}
	return text, s, x
}

// Of the whole: dates and days go to and fro; what is joined is split as it was; what is shown is parsed to the same source.
func TestTexts(t *testing.T) {
	r := rand.New(rand.NewSource(23))
	for range 200 {
		days, _ := civil.Days(api.Date{Year: 1 + r.Intn(9999), Month: 1 + r.Intn(12), Day: 1 + r.Intn(28)})
		d, _ := civil.Of(days)
		if back, e := civil.Days(d); back != days || e != api.OK {
			t.Fatalf("day %d came back as %d, %d", days, back, e)
		}
		text, s, _ := drawnWhole(t, r)
		l, _, _ := line.Split(text)
		joined, e := line.Join(l)
		if again, _, f := line.Split(joined); len(again) != len(l) || e != api.OK || f != api.OK {
			t.Fatalf("%q was joined to %q", text, joined)
		}
		if back, _, f := source.Parse(joined); !show.Same(back, s) || f != api.OK {
			t.Fatalf("%q was joined to %q", text, joined)
		}
		shown, e := show.Show(s)
		if back, _, f := source.Parse(shown); !show.Same(back, s) || e != api.OK || f != api.OK {
			t.Fatalf("%q was shown as %q", text, shown)
		}
	}
}

// Of the whole: times of rules rise; what is looked up is what the zone says; each time is one of those at which clocks show what they show then; what is encoded is decoded as it was.
func TestTables(t *testing.T) {
	r := rand.New(rand.NewSource(24))
	for range 100 {
		text, s, x := drawnWhole(t, r)
		for _, name := range []string{"r", "s"} {
			times, _ := rule.Times(s.Rules, name, 3600)
			for i := 1; i < len(times); i++ {
				if times[i].At <= times[i-1].At {
					t.Fatalf("%q: times of %s do not rise: %v", text, name, times)
				}
			}
		}
		for _, n := range x.Tables {
			for range 30 {
				at := drawTime(r)
				want, _ := zone.At(s, n.Name, at)
				if l, e := table.Look(n.Table, at); l != want || e != api.OK {
					t.Fatalf("%q: %s at %d: %v, %d; want %v", text, n.Name, at, l, e, want)
				}
				if d, second, e := local.Wall(n.Table, at); e == api.OK {
					if times, _ := local.When(n.Table, d, second); !slices.Contains(times, at) {
						t.Fatalf("%q: %s at %d: clocks show %v, %d, but at %v", text, n.Name, at, d, second, times)
					}
				}
			}
			bytes, e := wire.Encode(n.Table)
			if back, f := wire.Decode(bytes); back.First != n.Table.First || !slices.Equal(back.Changes, n.Table.Changes) || e != api.OK || f != api.OK {
				t.Fatalf("%q: %s was decoded as %v, %d", text, n.Name, back, f)
			}
		}
	}
}

// Of the whole: what is applied leads from one release to the other; no patch puts fewer changes; what is answered behind an upgrade is what the newer text answers (L3).
func TestUpgrades(t *testing.T) {
	r := rand.New(rand.NewSource(25))
	for range 300 {
		elder, _, x := drawnWhole(t, r)
		newer, _, y := drawnWhole(t, r)
		if r.Intn(2) == 0 {
			newer = strings.Replace(elder, " max ", " 2100 ", 1)
			newer = strings.Replace(newer, "Zone A", "Zone "+[]string{"A", "AA", "B2"}[r.Intn(3)], 1)
			newer = strings.Replace(newer, "Link A", "Link "+[]string{"A", "AA", "B2"}[r.Intn(3)], 1)
			s, _, _ := source.Parse(newer)
			y, _ = release.Make(s)
		}
		u, e := release.Diff(x, y)
		came, f := release.Apply(x, u)
		if e != api.OK || f != api.OK || len(came.Tables) != len(y.Tables) || !slices.Equal(came.Links, y.Links) {
			t.Fatalf("from %q to %q: %d, %d; %v", elder, newer, e, f, came)
		}
		for i, n := range y.Tables {
			if got := came.Tables[i]; got.Name != n.Name || got.Table.First != n.Table.First || !slices.Equal(got.Table.Changes, n.Table.Changes) {
				t.Fatalf("from %q to %q: table %d is %v", elder, newer, i, got)
			}
		}
		checkPatches(t, x, y, u)
		questions := drawQuestions(r)
		want, e := report.Answer(newer, questions)
		got, f := report.Upgrade(elder, newer, questions)
		if isBad := len(want) == 1 && strings.HasPrefix(want[0], "bad "); isBad {
			want[0] = "bad new " + want[0][len("bad "):]
		}
		if !slices.Equal(got, want) || e != api.OK || f != api.OK {
			t.Fatalf("from %q to %q: %q, %d; want %q", elder, newer, got, f, want)
		}
	}
}

// checkPatches: one change more that stays, at either end, leads elsewhere, so none puts fewer.
func checkPatches(t *testing.T, x, y api.Release, u api.Update) {
	t.Helper()
	for _, p := range u.Patch {
		old, _ := release.Find(x, p.Name)
		next, _ := release.Find(y, p.Name)
		best := p.Patch
		for head := range min(len(old.Changes), len(next.Changes)) + 1 {
			tail := len(next.Changes) - head - len(best.Put) + 1
			if len(best.Put) == 0 || tail < 0 || tail > len(old.Changes)-head {
				continue
			}
			fewer := api.Patch{First: next.First, Head: head, Tail: tail, Put: next.Changes[head : len(next.Changes)-tail]}
			if got, e := delta.Apply(old, fewer); e == api.OK && slices.Equal(got.Changes, next.Changes) {
				t.Fatalf("%s: %d are put; with a head of %d %d do", p.Name, len(best.Put), head, len(fewer.Put))
			}
		}
	}
}

func drawQuestions(r *rand.Rand) []string {
	var l []string
	for range 40 {
		name := []string{"A", "AA", "B", "B2", "L", "None", "9"}[r.Intn(7)]
		at := drawTime(r)
		l = append(l, name+" at "+strconv.Itoa(at), name+" when "+time.Unix(int64(at), 0).UTC().Format("2006-01-02 15:04:05"))
	}
	return append(l, "", "A at", " A at 5", "A when 2000-01-01 24:00:00")
}

// P4: a text as great as may be, with tables as great as may be, and as many questions.
func TestGreatTexts(t *testing.T) {
	var text strings.Builder
	for i := range 4 {
		for month := 1; month <= 9; month += 2 {
			text.WriteString("Rule r" + strconv.Itoa(i) + " 1900 2099 " + time.Month(month).String()[:3] + " 1 " + strconv.Itoa(i) + ":00 " + strconv.Itoa(month%4/2) + ":00 S\n")
		}
	}
	var questions []string
	for i := range 20 {
		text.WriteString("Zone Z" + strconv.Itoa(i) + " 0:" + strconv.Itoa(10+i) + " r" + strconv.Itoa(i%4) + " X/Y\nLink Z" + strconv.Itoa(i) + " L" + strconv.Itoa(i) + "\n")
		for k := range 5 {
			questions = append(questions, "L"+strconv.Itoa(i)+" at "+strconv.Itoa(k*100000000), "Z"+strconv.Itoa(i)+" when 2000-0"+strconv.Itoa(k+1)+"-01 00:00:00")
		}
	}
	great := text.String()
	l, e := report.Answer(great, questions)
	if len(l) != 200 || e != api.OK || slices.Contains(l, "what") || slices.Contains(l, "none") {
		t.Fatalf("%d answers, %d: %q", len(l), e, l)
	}
	m, e := report.Upgrade(strings.ReplaceAll(great, "2099", "2050"), great, questions)
	if !slices.Equal(l, m) || e != api.OK {
		t.Fatalf("behind an upgrade: %q, %d; want %q", m, e, l)
	}
}

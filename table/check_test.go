package table_test

import (
	"math"
	"strings"
	"testing"

	"dateline/api"
	"dateline/table"
)

const hour = 3600

// The first and the last second of years from MinYear to MaxYear.
const (
	firstTime = -62135596800
	lastTime  = 253402300799
)

var (
	standard = api.Local{Shift: hour, Name: "A"}
	summer   = api.Local{Shift: 2 * hour, Save: hour, Name: "B"}
)

// long table of so many changes, a second apart.
func long(changes int) api.Table {
	t := api.Table{First: standard}
	for i := range changes {
		t.Changes = append(t.Changes, api.Change{At: i, Local: []api.Local{summer, standard}[i%2]})
	}
	return t
}

func checkLook(t *testing.T, l api.Table, at int, want api.Local) {
	t.Helper()
	if got, e := table.Look(l, at); got != want || e != api.OK {
		t.Errorf("Look(%d) = %v, %d; want %v", at, got, e, want)
	}
}

// checkWrong: Check and Look answer an error, and nothing else, whatever time it is.
func checkWrong(t *testing.T, what string, l api.Table, want api.Errno) {
	t.Helper()
	if e := table.Check(l); e != want {
		t.Errorf("%s: Check: %d; want %d", what, e, want)
	}
	for _, at := range []int{0, lastTime + 1} {
		if got, e := table.Look(l, at); got != (api.Local{}) || e != want {
			t.Errorf("%s: Look(%d): %v, %d; want %d", what, at, got, e, want)
		}
	}
}

// G1: what a Local may be, in First and in a change.
func TestCheckOfLocals(t *testing.T) {
	n24 := strings.Repeat("n", 24)
	for _, c := range []struct {
		l    api.Local
		want api.Errno
	}{
		{api.Local{Name: "A"}, api.OK},
		{api.Local{Shift: 75600, Name: "A"}, api.OK},
		{api.Local{Shift: 75601, Name: "A"}, api.ErrRange},
		{api.Local{Shift: -75600, Name: "A"}, api.OK},
		{api.Local{Shift: -75601, Name: "A"}, api.ErrRange},
		{api.Local{Shift: math.MaxInt, Name: "A"}, api.ErrRange},
		{api.Local{Shift: math.MinInt, Name: "A"}, api.ErrRange},
		{api.Local{Save: 10800, Name: "A"}, api.OK},
		{api.Local{Save: 10801, Name: "A"}, api.ErrRange},
		{api.Local{Save: -1, Name: "A"}, api.ErrRange},
		{api.Local{Save: math.MaxInt, Name: "A"}, api.ErrRange},
		{api.Local{Save: math.MinInt, Name: "A"}, api.ErrRange},
		// More may be saved than clocks are ahead.
		{api.Local{Shift: -75600, Save: 10800, Name: "A"}, api.OK},
		{api.Local{Name: ""}, api.ErrForm},
		{api.Local{Name: n24}, api.OK},
		{api.Local{Name: n24 + "n"}, api.ErrForm},
		{api.Local{Name: strings.Repeat("n", 1<<20)}, api.ErrForm},
		{api.Local{Name: "azAZ09+-"}, api.OK},
		{api.Local{Name: "+"}, api.OK},
		{api.Local{Name: "-03"}, api.OK},
		{api.Local{Name: "a b"}, api.ErrForm},
		{api.Local{Name: "a_b"}, api.ErrForm},
		{api.Local{Name: "a/b"}, api.ErrForm},
		{api.Local{Name: "%s"}, api.ErrForm},
		{api.Local{Name: "a\n"}, api.ErrForm},
		{api.Local{Name: "\x00"}, api.ErrForm},
		{api.Local{Name: "@"}, api.ErrForm},
		{api.Local{Name: "["}, api.ErrForm},
		{api.Local{Name: "`"}, api.ErrForm},
		{api.Local{Name: "{"}, api.ErrForm},
		{api.Local{Name: "/"}, api.ErrForm},
		{api.Local{Name: ":"}, api.ErrForm},
		{api.Local{Name: ","}, api.ErrForm},
		{api.Local{Name: "\xe9"}, api.ErrForm},
		{api.Local{Name: "é"}, api.ErrForm},
		// Of one Local, ErrRange comes first.
		{api.Local{Shift: 75601}, api.ErrRange},
		{api.Local{Save: -1, Name: "a b"}, api.ErrRange},
	} {
		for _, l := range []api.Table{
			{First: c.l},
			{First: standard, Changes: []api.Change{{At: 5, Local: c.l}}},
			{First: standard, Changes: []api.Change{{At: 5, Local: summer}, {At: 6, Local: c.l}, {At: 7, Local: summer}}},
		} {
			if c.want == api.OK {
				if e := table.Check(l); e != api.OK {
					t.Errorf("Check(%v) = %d", l, e)
				}
			} else {
				checkWrong(t, c.l.Name, l, c.want)
			}
		}
	}
}

// G1: when changes may be, and what they may change.
func TestCheckOfChanges(t *testing.T) {
	named, saved, shifted := standard, standard, standard
	named.Name, saved.Save, shifted.Shift = "a", 1, hour+1
	for _, c := range []struct {
		name    string
		changes []api.Change
		want    api.Errno
	}{
		{"none", nil, api.OK},
		{"an empty list", []api.Change{}, api.OK},
		{"at the first time", []api.Change{{At: firstTime, Local: summer}}, api.OK},
		{"ahead of the first time", []api.Change{{At: firstTime - 1, Local: summer}}, api.ErrRange},
		{"at the last time", []api.Change{{At: lastTime, Local: summer}}, api.OK},
		{"behind the last time", []api.Change{{At: lastTime + 1, Local: summer}}, api.ErrRange},
		{"at no time", []api.Change{{At: math.MinInt, Local: summer}}, api.ErrRange},
		{"never", []api.Change{{At: math.MaxInt, Local: summer}}, api.ErrRange},
		{"all times", []api.Change{{At: firstTime, Local: summer}, {At: firstTime + 1, Local: standard}, {At: 0, Local: summer}, {At: lastTime, Local: standard}}, api.OK},
		{"at one time", []api.Change{{At: 5, Local: summer}, {At: 5, Local: standard}}, api.ErrState},
		{"a second ahead", []api.Change{{At: 5, Local: summer}, {At: 4, Local: standard}}, api.ErrState},
		{"a second behind", []api.Change{{At: 5, Local: summer}, {At: 6, Local: standard}}, api.OK},
		{"to First", []api.Change{{At: 5, Local: standard}}, api.ErrState},
		{"to what it is", []api.Change{{At: 5, Local: summer}, {At: 6, Local: summer}}, api.ErrState},
		{"to what it is, and on", []api.Change{{At: 5, Local: summer}, {At: 6, Local: standard}, {At: 7, Local: standard}, {At: 8, Local: summer}}, api.ErrState},
		{"another name", []api.Change{{At: 5, Local: named}}, api.OK},
		{"more saved", []api.Change{{At: 5, Local: saved}}, api.OK},
		{"a second farther", []api.Change{{At: 5, Local: shifted}}, api.OK},
	} {
		l := api.Table{First: standard, Changes: c.changes}
		if c.want != api.OK {
			checkWrong(t, c.name, l, c.want)
		} else if e := table.Check(l); e != api.OK {
			t.Errorf("%s: %d", c.name, e)
		}
	}
	if e := table.Check(long(1000)); e != api.OK {
		t.Errorf("1000 changes: %d", e)
	}
	checkWrong(t, "1001 changes", long(1001), api.ErrMany)
	checkWrong(t, "nothing", api.Table{}, api.ErrForm)
}

// faults of a table in the order in which G1 has them, with three changes.
var faults = []struct {
	name string
	do   func(l *api.Table)
	want api.Errno
}{
	{"many", func(l *api.Table) { l.Changes = append(l.Changes, make([]api.Change, 1000)...) }, api.ErrMany},
	{"range of First", func(l *api.Table) { l.First.Shift = 75601 }, api.ErrRange},
	{"form of First", func(l *api.Table) { l.First.Name = "" }, api.ErrForm},
	{"time of the first one", func(l *api.Table) { l.Changes[0].At = firstTime - 1 }, api.ErrRange},
	{"range of the first one", func(l *api.Table) { l.Changes[0].Local.Save = -1 }, api.ErrRange},
	{"form of the first one", func(l *api.Table) { l.Changes[0].Local.Name = "b b" }, api.ErrForm},
	{"the first one is First", func(l *api.Table) { l.Changes[0].Local = l.First }, api.ErrState},
	{"time of the second one", func(l *api.Table) { l.Changes[1].At = lastTime + 1 }, api.ErrRange},
	{"the second one is no later", func(l *api.Table) { l.Changes[1].At = l.Changes[0].At }, api.ErrState},
	{"range of the second one", func(l *api.Table) { l.Changes[1].Local.Shift = -75601 }, api.ErrRange},
	{"form of the second one", func(l *api.Table) { l.Changes[1].Local.Name = "_" }, api.ErrForm},
	{"the second one is the first", func(l *api.Table) { l.Changes[1].Local = l.Changes[0].Local }, api.ErrState},
	{"time of the third one", func(l *api.Table) { l.Changes[2].At = lastTime + 1 }, api.ErrRange},
	{"the third one is no later", func(l *api.Table) { l.Changes[2].At = -1 }, api.ErrState},
	{"range of the third one", func(l *api.Table) { l.Changes[2].Local.Save = 10801 }, api.ErrRange},
	{"form of the third one", func(l *api.Table) { l.Changes[2].Local.Name = "" }, api.ErrForm},
}

// G1, P1: each error, and of two the one that comes first.
func TestOrderOfErrors(t *testing.T) {
	if e := table.Check(long(3)); e != api.OK {
		t.Fatalf("nothing is wrong, but it is %d", e)
	}
	for i, f := range faults {
		l := long(3)
		f.do(&l)
		checkWrong(t, f.name, l, f.want)
		for _, g := range faults[i+1:] {
			l := long(3)
			// What is done last may not undo what comes first.
			g.do(&l)
			f.do(&l)
			checkWrong(t, f.name+", and "+g.name, l, f.want)
		}
	}
}

// G2: Look ahead of all changes, at each, a second ahead of each, behind all.
func TestLook(t *testing.T) {
	third := api.Local{Shift: -hour, Name: "C"}
	l := api.Table{First: standard, Changes: []api.Change{{At: -100, Local: summer}, {At: 0, Local: standard}, {At: 1, Local: third}, {At: 500, Local: summer}}}
	for _, c := range []struct {
		at   int
		want api.Local
	}{
		{firstTime, standard}, {-101, standard}, {-100, summer}, {-99, summer}, {-1, summer}, {0, standard},
		{1, third}, {2, third}, {499, third}, {500, summer}, {501, summer}, {lastTime, summer},
	} {
		checkLook(t, l, c.at, c.want)
	}
	checkLook(t, api.Table{First: third}, firstTime, third)
	checkLook(t, api.Table{First: third}, lastTime, third)
	edges := api.Table{First: standard, Changes: []api.Change{{At: firstTime, Local: summer}, {At: lastTime, Local: third}}}
	checkLook(t, edges, firstTime, summer)
	checkLook(t, edges, lastTime-1, summer)
	checkLook(t, edges, lastTime, third)
	for i := range 1000 {
		checkLook(t, long(1000), i, []api.Local{summer, standard}[i%2])
	}
	for _, at := range []int{firstTime - 1, lastTime + 1, math.MinInt, math.MaxInt} {
		for _, l := range []api.Table{l, edges, {First: third}} {
			if got, e := table.Look(l, at); got != (api.Local{}) || e != api.ErrRange {
				t.Errorf("Look(%d) = %v, %d; want ErrRange", at, got, e)
			}
		}
	}
}

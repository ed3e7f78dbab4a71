package local_test

import (
	"math"
	"math/rand"
	"reflect"
	"slices"
	"strings"
	"testing"
	"time"
	_ "time/tzdata"

	"dateline/api"
	"dateline/local"
	"dateline/source"
	"dateline/table"
)

const hour, day = 3600, api.DayTime

// The first and the last second of years from MinYear to MaxYear.
const (
	firstTime = -62135596800
	lastTime  = 253402300799
)

const example = `
Rule eu 1981 max Mar lastSun 1:00u 1:00 S
Rule eu 1996 max Oct lastSun 1:00u 0 -
Zone Here/Town 0:10 - LMT 1880 Jan 1 0
  1:00 eu CE%sT
Link Here/Town Old
`

func town(t *testing.T) api.Table {
	t.Helper()
	s, _, _ := source.Parse(example)
	l, e := table.Compile(s, "Old")
	if e != api.OK {
		t.Fatalf("Compile: %d", e)
	}
	return l
}

func unix(year, month, day, seconds int) int {
	return int(time.Date(year, time.Month(month), day, 0, 0, seconds, 0, time.UTC).Unix())
}

func date(year, month, day int) api.Date { return api.Date{Year: year, Month: month, Day: day} }

// ahead of universal time by so many seconds.
func ahead(shift int) api.Local { return api.Local{Shift: shift, Name: "X"} }

// turned: clocks are ahead by first, then from each time on by another shift.
func turned(first int, turns ...[2]int) api.Table {
	t := api.Table{First: ahead(first)}
	for _, turn := range turns {
		t.Changes = append(t.Changes, api.Change{At: turn[0], Local: ahead(turn[1])})
	}
	return t
}

func checkWall(t *testing.T, l api.Table, at int, d api.Date, second int) {
	t.Helper()
	if got, n, e := local.Wall(l, at); got != d || n != second || e != api.OK {
		t.Errorf("Wall(%d) = %v, %d, %d; want %v, %d", at, got, n, e, d, second)
	}
}

func checkWhen(t *testing.T, l api.Table, d api.Date, second int, want ...int) {
	t.Helper()
	if got, e := local.When(l, d, second); !slices.Equal(got, want) || e != api.OK {
		t.Errorf("When(%v, %d) = %v, %d; want %v", d, second, got, e, want)
	}
}

// H1: the document's example.
func TestExample(t *testing.T) {
	l := town(t)
	spring, autumn := date(2020, 3, 29), date(2020, 10, 25)
	checkWall(t, l, unix(2020, 3, 29, hour-1), spring, 2*hour-1)
	checkWall(t, l, unix(2020, 3, 29, hour), spring, 3*hour)
	checkWhen(t, l, spring, 2*hour-1, unix(2020, 3, 29, hour-1))
	checkWhen(t, l, spring, 2*hour)
	checkWhen(t, l, spring, 2*hour+1800)
	checkWhen(t, l, spring, 3*hour-1)
	checkWhen(t, l, spring, 3*hour, unix(2020, 3, 29, hour))
	checkWall(t, l, unix(2020, 10, 25, hour-1), autumn, 3*hour-1)
	checkWall(t, l, unix(2020, 10, 25, hour), autumn, 2*hour)
	checkWhen(t, l, autumn, 2*hour-1, unix(2020, 10, 25, -1))
	checkWhen(t, l, autumn, 2*hour, unix(2020, 10, 25, 0), unix(2020, 10, 25, hour))
	checkWhen(t, l, autumn, 2*hour+1800, unix(2020, 10, 25, 1800), unix(2020, 10, 25, hour+1800))
	checkWhen(t, l, autumn, 3*hour-1, unix(2020, 10, 25, hour-1), unix(2020, 10, 25, 2*hour-1))
	checkWhen(t, l, autumn, 3*hour, unix(2020, 10, 25, 2*hour))
	// Into another era they were put forward by 50 minutes.
	checkWhen(t, l, date(1879, 12, 31), day-1, unix(1880, 1, 1, -601))
	checkWhen(t, l, date(1880, 1, 1), 0)
	checkWhen(t, l, date(1880, 1, 1), 2999)
	checkWhen(t, l, date(1880, 1, 1), 3000, unix(1880, 1, 1, -600))
}

// H1: as it was in a town that there is.
func TestTown(t *testing.T) {
	l := town(t)
	berlin, err := time.LoadLocation("Europe/Berlin")
	if err != nil {
		t.Fatal(err)
	}
	r := rand.New(rand.NewSource(8))
	first := unix(1997, 1, 1, 0)
	for range 1000 {
		at := first + r.Intn(unix(2030, 1, 1, 0)-first)
		there := time.Unix(int64(at), 0).In(berlin)
		year, month, n := there.Date()
		second := there.Hour()*hour + there.Minute()*60 + there.Second()
		checkWall(t, l, at, date(year, int(month), n), second)
		if times, e := local.When(l, date(year, int(month), n), second); !slices.Contains(times, at) || e != api.OK {
			t.Errorf("When(%v) = %v, %d; want %d", there, times, e, at)
		}
	}
}

// H1: days of dates beside those of universal time.
func TestDaysBeside(t *testing.T) {
	for _, c := range []struct {
		shift, at int
		d         api.Date
		second    int
	}{
		{0, 0, date(1970, 1, 1), 0},
		{0, -1, date(1969, 12, 31), day - 1},
		{0, day - 1, date(1970, 1, 1), day - 1},
		{0, day, date(1970, 1, 2), 0},
		{1, -1, date(1970, 1, 1), 0},
		{-1, 0, date(1969, 12, 31), day - 1},
		{75600, 0, date(1970, 1, 1), 75600},
		{75600, 10800, date(1970, 1, 2), 0},
		{75600, -75600, date(1970, 1, 1), 0},
		{-75600, 0, date(1969, 12, 31), 10800},
		{-75600, 75599, date(1969, 12, 31), day - 1},
		{-75600, 75600, date(1970, 1, 1), 0},
		{hour, unix(2000, 2, 28, 23*hour), date(2000, 2, 29), 0},
		{hour, unix(1900, 2, 28, 23*hour), date(1900, 3, 1), 0},
	} {
		l := turned(c.shift)
		checkWall(t, l, c.at, c.d, c.second)
		checkWhen(t, l, c.d, c.second, c.at)
	}
}

// H1: more times than two, and times without any change of what is shown.
func TestManyTimes(t *testing.T) {
	epoch := date(1970, 1, 1)
	l := turned(0, [2]int{1000, -500}, [2]int{1500, -1000})
	checkWhen(t, l, epoch, 499, 499)
	checkWhen(t, l, epoch, 500, 500, 1000, 1500)
	checkWhen(t, l, epoch, 999, 999, 1499, 1999)
	checkWhen(t, l, epoch, 1000, 2000)
	// Put back, and forward to what it was: a shift that there is twice shows a time but once.
	l = turned(0, [2]int{1000, -100}, [2]int{1050, 0})
	checkWhen(t, l, epoch, 899, 899)
	checkWhen(t, l, epoch, 900, 900, 1000)
	checkWhen(t, l, epoch, 949, 949, 1049)
	checkWhen(t, l, epoch, 950, 950)
	checkWhen(t, l, epoch, 1000)
	checkWhen(t, l, epoch, 1049)
	checkWhen(t, l, epoch, 1050, 1050)
	// Put forward, and back.
	l = turned(0, [2]int{1000, 100}, [2]int{1050, 0})
	checkWhen(t, l, epoch, 1049)
	checkWhen(t, l, epoch, 1050, 1050)
	checkWhen(t, l, epoch, 1099, 1099)
	checkWhen(t, l, epoch, 1100, 1000, 1100)
	checkWhen(t, l, epoch, 1149, 1049, 1149)
	checkWhen(t, l, epoch, 1150, 1150)
	// Another name, or more of it saved, shows nothing else.
	l = api.Table{First: ahead(0), Changes: []api.Change{{At: 1000, Local: api.Local{Name: "Y"}}, {At: 1001, Local: api.Local{Save: 60, Name: "Y"}}}}
	for second := 998; second < 1004; second++ {
		checkWhen(t, l, epoch, second, second)
	}
	// Clocks that stand still as long as may be.
	l = turned(0)
	want := []int{0}
	for i := 1; i <= 1000; i++ {
		l.Changes = append(l.Changes, api.Change{At: i, Local: ahead(-i)})
		want = append(want, i)
	}
	checkWhen(t, l, epoch, 0, want...)
	checkWhen(t, l, epoch, 1, 1001)
	checkWall(t, l, 1000, epoch, 0)
}

// H1: times and dates of the first and the last year.
func TestYears(t *testing.T) {
	first, last := date(1, 1, 1), date(9999, 12, 31)
	for _, shift := range []int{0, 1, hour, 75600, -1, -hour, -75600} {
		l := turned(shift)
		for _, at := range []int{firstTime, firstTime + 1, firstTime + 75599, firstTime + 75600, lastTime - 75600, lastTime - 75599, lastTime - 1, lastTime} {
			shown := at + shift
			d, second, e := local.Wall(l, at)
			if shown < firstTime || shown > lastTime {
				if d != (api.Date{}) || second != 0 || e != api.ErrRange {
					t.Errorf("Wall(%d) with %d = %v, %d, %d; want ErrRange", at, shift, d, second, e)
				}
				continue
			}
			if e != api.OK {
				t.Errorf("Wall(%d) with %d: %d", at, shift, e)
			}
			checkWhen(t, l, d, second, at)
		}
	}
	checkWall(t, turned(0), firstTime, first, 0)
	checkWall(t, turned(0), lastTime, last, day-1)
	checkWall(t, turned(hour), firstTime, first, hour)
	checkWall(t, turned(-hour), lastTime, last, day-1-hour)
	checkWall(t, turned(-hour), firstTime+hour, first, 0)
	checkWall(t, turned(hour), lastTime-hour, last, day-1)
	// What they showed at times that are none.
	checkWhen(t, turned(hour), first, 0)
	checkWhen(t, turned(hour), first, hour-1)
	checkWhen(t, turned(hour), first, hour, firstTime)
	checkWhen(t, turned(-hour), last, day-1)
	checkWhen(t, turned(-hour), last, day-hour)
	checkWhen(t, turned(-hour), last, day-hour-1, lastTime)
	// First is never, if there is a change at the first time.
	l := turned(0, [2]int{firstTime, hour})
	checkWhen(t, l, first, 0)
	checkWhen(t, l, first, hour-1)
	checkWhen(t, l, first, hour, firstTime)
	checkWall(t, l, firstTime, first, hour)
	l = turned(0, [2]int{lastTime, -hour})
	checkWhen(t, l, last, day-2, lastTime-1)
	checkWhen(t, l, last, day-1)
	checkWhen(t, l, last, day-1-hour, lastTime-hour, lastTime)
}

// checkWallWrong: an error, and nothing else.
func checkWallWrong(t *testing.T, what string, l api.Table, at int, want api.Errno) {
	t.Helper()
	if d, n, e := local.Wall(l, at); d != (api.Date{}) || n != 0 || e != want {
		t.Errorf("%s: Wall(%d) = %v, %d, %d; want %d", what, at, d, n, e, want)
	}
}

func checkWhenWrong(t *testing.T, what string, l api.Table, d api.Date, second int, want api.Errno) {
	t.Helper()
	if times, e := local.When(l, d, second); len(times) != 0 || e != want {
		t.Errorf("%s: When(%v, %d) = %v, %d; want %d", what, d, second, times, e, want)
	}
}

// H1, P1: errors, and that those of Check come first.
func TestErrors(t *testing.T) {
	epoch := date(1970, 1, 1)
	for _, c := range []struct {
		name string
		l    api.Table
		want api.Errno
	}{
		{"nothing", api.Table{}, api.ErrForm},
		{"too many", api.Table{First: ahead(0), Changes: make([]api.Change, 1001)}, api.ErrMany},
		{"too far", turned(75601), api.ErrRange},
		{"too far from a time on", turned(0, [2]int{5, -75601}), api.ErrRange},
		{"too long a name", api.Table{First: api.Local{Name: strings.Repeat("n", 25)}}, api.ErrForm},
		{"to what it is", turned(0, [2]int{5, 0}), api.ErrState},
		{"not rising", turned(0, [2]int{5, 1}, [2]int{5, 2}), api.ErrState},
		{"at no time", turned(0, [2]int{lastTime + 1, 1}), api.ErrRange},
	} {
		checkWallWrong(t, c.name, c.l, 0, c.want)
		checkWallWrong(t, c.name, c.l, lastTime+1, c.want)
		checkWhenWrong(t, c.name, c.l, epoch, 0, c.want)
		checkWhenWrong(t, c.name, c.l, api.Date{}, -1, c.want)
	}
	for _, l := range []api.Table{turned(0), turned(75600), turned(-75600), town(t)} {
		for _, at := range []int{firstTime - 1, lastTime + 1, firstTime - 75600, lastTime + 75600, math.MinInt, math.MaxInt} {
			checkWallWrong(t, "at no time", l, at, api.ErrRange)
		}
		for _, second := range []int{-1, day, day + 1, math.MinInt, math.MaxInt} {
			checkWhenWrong(t, "no such second", l, epoch, second, api.ErrRange)
			checkWhenWrong(t, "neither", l, date(2021, 2, 29), second, api.ErrRange)
		}
		for _, d := range []api.Date{{}, date(0, 12, 31), date(10000, 1, 1), date(2021, 2, 29), date(1900, 2, 29), date(2021, 13, 1), date(2021, 0, 1), date(2021, 1, 0), date(2021, 4, 31), date(math.MaxInt, math.MaxInt, math.MaxInt), date(math.MinInt, math.MinInt, math.MinInt)} {
			checkWhenWrong(t, "no such date", l, d, 0, api.ErrRange)
		}
		if _, e := local.When(l, date(2000, 2, 29), day-1); e != api.OK {
			t.Errorf("When on a leap day: %d", e)
		}
	}
}

// drawTable: changes that are near each other, somewhere.
func drawTable(r *rand.Rand) api.Table {
	at := []int{firstTime, 0, unix(2000, 2, 28, 0), lastTime - 3*day}[r.Intn(4)]
	t := turned(r.Intn(151201) - 75600)
	last := t.First.Shift
	for range r.Intn(8) {
		shift := r.Intn(151201) - 75600
		if at += r.Intn(day / 2); at <= lastTime && shift != last {
			t.Changes = append(t.Changes, api.Change{At: at, Local: ahead(shift)})
			last = shift
		}
		at++
	}
	return t
}

// wanted times: those within what goes on from each change to the next.
func wanted(l api.Table, shown int) []int {
	var times []int
	from, shift := firstTime, l.First.Shift
	for _, c := range append(slices.Clone(l.Changes), api.Change{At: lastTime + 1}) {
		if at := shown - shift; at >= from && at < c.At {
			times = append(times, at)
		}
		from, shift = c.At, c.Local.Shift
	}
	return times
}

// H2: each time is one of those at which clocks show what they show then; and at all of these they do.
func TestAnyTable(t *testing.T) {
	r := rand.New(rand.NewSource(10))
	several := 0
	for range 3000 {
		l := drawTable(r)
		at := firstTime + r.Intn(lastTime-firstTime)
		if len(l.Changes) > 0 {
			at = l.Changes[r.Intn(len(l.Changes))].At + r.Intn(2*day) - day
		}
		d, second, e := local.Wall(l, at)
		if e != api.OK {
			continue
		}
		times, e := local.When(l, d, second)
		if !slices.Contains(times, at) || !slices.IsSorted(times) || e != api.OK {
			t.Fatalf("When(%v, %v, %d) = %v, %d; want %d", l, d, second, times, e, at)
		}
		look, _ := table.Look(l, at)
		if want := wanted(l, at+look.Shift); !slices.Equal(times, want) {
			t.Fatalf("When(%v, %v, %d) = %v; want %v", l, d, second, times, want)
		}
		for _, each := range times {
			checkWall(t, l, each, d, second)
		}
		several += len(times) - 1
	}
	if several == 0 {
		t.Error("at no time clocks had been put back")
	}
}

// H1: any date and second, shown or not.
func TestAnyDate(t *testing.T) {
	r := rand.New(rand.NewSource(11))
	never := 0
	for range 3000 {
		l := drawTable(r)
		shown := firstTime + r.Intn(lastTime-firstTime)
		if len(l.Changes) > 0 {
			shown = min(max(l.Changes[0].At+r.Intn(4*day)-2*day, firstTime), lastTime)
		}
		there := time.Unix(int64(shown), 0).UTC()
		year, month, n := there.Date()
		second := there.Hour()*hour + there.Minute()*60 + there.Second()
		want := wanted(l, shown)
		if len(want) == 0 {
			never++
		}
		if checkWhen(t, l, date(year, int(month), n), second, want...); t.Failed() {
			t.Fatalf("of %v", l)
		}
	}
	if never == 0 {
		t.Error("at no time clocks had been put forward")
	}
}

// P2, P3: what is handed in is only read, the room behind lists too, and is not kept; answers are the caller's.
func TestMemory(t *testing.T) {
	l := turned(0, [2]int{1000, -500}, [2]int{1500, -1000})
	room := append(l.Changes, api.Change{At: 77})
	before := slices.Clone(room)
	l.Changes = room[:2]
	for range 2 {
		local.Wall(l, 1000)
		local.Wall(l, lastTime+1)
		times, e := local.When(l, date(1970, 1, 1), 500)
		if !reflect.DeepEqual(room, before) {
			t.Fatalf("a table was changed: %v", room)
		}
		if !slices.Equal(times, []int{500, 1000, 1500}) || e != api.OK {
			t.Errorf("When = %v, %d", times, e)
		}
		for i := range times[:cap(times)] {
			times[:cap(times)][i] = 7
		}
	}
	times, _ := local.When(l, date(1970, 1, 1), 500)
	room[0] = api.Change{}
	if !slices.Equal(times, []int{500, 1000, 1500}) {
		t.Errorf("an answer was changed: %v", times)
	}
}

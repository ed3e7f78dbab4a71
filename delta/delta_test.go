package delta_test

import (
	"math"
	"math/rand"
	"slices"
	"strconv"
	"strings"
	"testing"

	"dateline/api"
	"dateline/delta"
	"dateline/source"
	"dateline/table"
)

// The first and the last second of years from MinYear to MaxYear.
const (
	firstTime = -62135596800
	lastTime  = 253402300799
)

var (
	a   = api.Local{Shift: 3600, Name: "A"}
	b   = api.Local{Shift: 7200, Save: 3600, Name: "B"}
	c   = api.Local{Shift: -75600, Name: "C"}
	far = api.Local{Shift: 75601, Name: "F"}
)

func to(at int, l api.Local) api.Change { return api.Change{At: at, Local: l} }

func from(first api.Local, changes ...api.Change) api.Table {
	return api.Table{First: first, Changes: changes}
}

// long: to b and back to a, so many changes, two seconds apart.
func long(changes int) api.Table {
	t := from(a)
	for i := range changes {
		t.Changes = append(t.Changes, to(2*i, []api.Local{b, a}[i%2]))
	}
	return t
}

func sameTable(t, u api.Table) bool {
	return t.First == u.First && slices.Equal(t.Changes, u.Changes)
}

func samePatch(p, q api.Patch) bool {
	return p.First == q.First && p.Head == q.Head && p.Tail == q.Tail && slices.Equal(p.Put, q.Put)
}

func checkApply(t *testing.T, what string, l api.Table, p api.Patch, want api.Table) {
	t.Helper()
	if got, e := delta.Apply(l, p); !sameTable(got, want) || e != api.OK {
		t.Errorf("%s: Apply(%v, %v) = %v, %d; want %v", what, l, p, got, e, want)
	}
}

// checkDiff, and that what is applied leads from one table to the other.
func checkDiff(t *testing.T, what string, l, u api.Table, want api.Patch) {
	t.Helper()
	if p, e := delta.Diff(l, u); !samePatch(p, want) || e != api.OK {
		t.Errorf("%s: Diff(%v, %v) = %v, %d; want %v", what, l, u, p, e, want)
	}
	checkApply(t, what, l, want, u)
}

// J1, J2: what stays at the beginning, what at the end, what is put between.
func TestDiff(t *testing.T) {
	four := from(a, to(1, b), to(5, a), to(9, b), to(11, c))
	for _, x := range []struct {
		name string
		l, u api.Table
		want api.Patch
	}{
		{"none", from(a), from(a), api.Patch{First: a}},
		{"another First", from(a), from(b), api.Patch{First: b}},
		{"all come", from(a), four, api.Patch{First: a, Put: four.Changes}},
		{"all go", four, from(a), api.Patch{First: a}},
		{"the same", four, four, api.Patch{First: a, Head: 4}},
		{"the same, but First", four, from(c, four.Changes...), api.Patch{First: c, Head: 4}},
		{"the last one goes", four, from(a, to(1, b), to(5, a), to(9, b)), api.Patch{First: a, Head: 3}},
		{"the first one goes", four, from(b, to(5, a), to(9, b), to(11, c)), api.Patch{First: b, Tail: 3}},
		{"one between goes", four, from(a, to(1, b), to(5, a), to(11, c)), api.Patch{First: a, Head: 2, Tail: 1}},
		{"one comes behind", four, from(a, to(1, b), to(5, a), to(9, b), to(11, c), to(12, a)), api.Patch{First: a, Head: 4, Put: []api.Change{to(12, a)}}},
		{"one comes ahead", four, from(a, to(0, c), to(1, b), to(5, a), to(9, b), to(11, c)), api.Patch{First: a, Tail: 4, Put: []api.Change{to(0, c)}}},
		{"one comes between", four, from(a, to(1, b), to(5, a), to(7, c), to(9, b), to(11, c)), api.Patch{First: a, Head: 2, Tail: 2, Put: []api.Change{to(7, c)}}},
		{"another time", four, from(a, to(1, b), to(6, a), to(9, b), to(11, c)), api.Patch{First: a, Head: 1, Tail: 2, Put: []api.Change{to(6, a)}}},
		{"another Local", four, from(a, to(1, b), to(5, c), to(9, b), to(11, c)), api.Patch{First: a, Head: 1, Tail: 2, Put: []api.Change{to(5, c)}}},
		{"another name", from(a, to(1, b)), from(a, to(1, api.Local{Shift: 7200, Save: 3600, Name: "b"})), api.Patch{First: a, Put: []api.Change{to(1, api.Local{Shift: 7200, Save: 3600, Name: "b"})}}},
		{"less saved", from(a, to(1, b)), from(a, to(1, api.Local{Shift: 7200, Save: 3599, Name: "B"})), api.Patch{First: a, Put: []api.Change{to(1, api.Local{Shift: 7200, Save: 3599, Name: "B"})}}},
		{"a second farther", from(a, to(1, b)), from(a, to(1, api.Local{Shift: 7201, Save: 3600, Name: "B"})), api.Patch{First: a, Put: []api.Change{to(1, api.Local{Shift: 7201, Save: 3600, Name: "B"})}}},
		{"all times are other", four, from(a, to(2, b), to(6, a), to(10, b), to(12, c)), api.Patch{First: a, Put: []api.Change{to(2, b), to(6, a), to(10, b), to(12, c)}}},
		{"the same between others", four, from(a, to(2, b), to(5, a), to(9, b), to(12, c)), api.Patch{First: a, Put: []api.Change{to(2, b), to(5, a), to(9, b), to(12, c)}}},
		{"the first and the last time", from(a, to(firstTime, b), to(0, a), to(lastTime, b)), from(a, to(firstTime, b), to(lastTime, a)), api.Patch{First: a, Head: 1, Put: []api.Change{to(lastTime, a)}}},
	} {
		checkDiff(t, x.name, x.l, x.u, x.want)
	}
}

// J1, J2: as many changes as there may be.
func TestManyChanges(t *testing.T) {
	most := long(1000)
	checkDiff(t, "the same", most, long(1000), api.Patch{First: a, Head: 1000})
	checkDiff(t, "all come", from(a), most, api.Patch{First: a, Put: most.Changes})
	checkDiff(t, "all go", most, from(a), api.Patch{First: a})
	other := long(1000)
	other.Changes[400].Local = c
	checkDiff(t, "one between", most, other, api.Patch{First: a, Head: 400, Tail: 599, Put: []api.Change{to(800, c)}})
	for i := range other.Changes {
		other.Changes[i].At++
	}
	checkDiff(t, "all are other", most, other, api.Patch{First: a, Put: other.Changes})
}

// J1: patches that Diff does not make, but that lead somewhere.
func TestApply(t *testing.T) {
	l := from(a, to(1, b), to(5, a), to(9, b), to(11, c))
	checkApply(t, "nothing stays", l, api.Patch{First: b}, from(b))
	checkApply(t, "all stay at the end", l, api.Patch{First: a, Tail: 4}, l)
	checkApply(t, "all stay, some here, some there", l, api.Patch{First: a, Head: 1, Tail: 3}, l)
	checkApply(t, "the same is put", l, api.Patch{First: a, Put: l.Changes}, l)
	checkApply(t, "some of it is", l, api.Patch{First: a, Head: 1, Tail: 1, Put: l.Changes[1:3]}, l)
	checkApply(t, "the first and the last one", l, api.Patch{First: a, Head: 1, Tail: 1}, from(a, to(1, b), to(11, c)))
	checkApply(t, "something between", l, api.Patch{First: c, Head: 1, Tail: 1, Put: []api.Change{to(2, c), to(10, a)}}, from(c, to(1, b), to(2, c), to(10, a), to(11, c)))
	checkApply(t, "999 and one", long(1000), api.Patch{First: a, Head: 999, Put: []api.Change{to(5000, c)}}, from(a, append(long(999).Changes, to(5000, c))...))
}

// wrong tables, and what Check says of them.
var wrong = []struct {
	name string
	l    api.Table
	want api.Errno
}{
	{"nothing", api.Table{}, api.ErrForm},
	{"too many", from(far, make([]api.Change, 1001)...), api.ErrMany},
	{"too far", from(far, make([]api.Change, 3)...), api.ErrRange},
	{"too long a name", from(api.Local{Name: strings.Repeat("n", 25)}), api.ErrForm},
	{"at no time", from(a, to(lastTime+1, a)), api.ErrRange},
	{"to what it is", from(a, to(1, a)), api.ErrState},
	{"not rising", from(a, to(1, b), to(1, c)), api.ErrState},
}

func checkNoPatch(t *testing.T, what string, l, u api.Table, want api.Errno) {
	t.Helper()
	if p, e := delta.Diff(l, u); !samePatch(p, api.Patch{}) || e != want {
		t.Errorf("%s: Diff = %v, %d; want %d", what, p, e, want)
	}
}

func checkNoTable(t *testing.T, what string, l api.Table, p api.Patch, want api.Errno) {
	t.Helper()
	if got, e := delta.Apply(l, p); !sameTable(got, api.Table{}) || e != want {
		t.Errorf("%s: Apply = %v, %d; want %d", what, got, e, want)
	}
}

// J1, P1: what is wrong with t comes ahead of all else.
func TestWrongTables(t *testing.T) {
	right := from(a, to(1, b))
	for _, x := range wrong {
		checkNoPatch(t, x.name, x.l, right, x.want)
		checkNoPatch(t, x.name, right, x.l, x.want)
		for _, y := range wrong {
			checkNoPatch(t, x.name+", and "+y.name, x.l, y.l, x.want)
		}
		for _, p := range []api.Patch{{}, {First: a}, {First: a, Head: -1}, {First: a, Tail: math.MaxInt}, {First: a, Put: make([]api.Change, 1001)}, {First: far}} {
			checkNoTable(t, x.name, x.l, p, x.want)
		}
		// The same, as what comes.
		if len(x.l.Changes) <= 1000 {
			checkNoTable(t, x.name, right, api.Patch{First: x.l.First, Put: x.l.Changes}, x.want)
		}
	}
}

// J1: how many may stay.
func TestHeadAndTail(t *testing.T) {
	l := long(3)
	for _, x := range []struct {
		head, tail int
		want       api.Errno
	}{
		{0, 0, api.OK}, {3, 0, api.OK}, {0, 3, api.OK}, {1, 2, api.OK}, {2, 1, api.OK},
		{-1, 0, api.ErrRange}, {0, -1, api.ErrRange}, {-1, -1, api.ErrRange}, {-1, 4, api.ErrRange}, {4, -1, api.ErrRange}, {-1, 1, api.ErrRange}, {1, -1, api.ErrRange},
		{4, 0, api.ErrRange}, {0, 4, api.ErrRange}, {2, 2, api.ErrRange}, {1, 3, api.ErrRange}, {3, 1, api.ErrRange}, {3, 3, api.ErrRange},
		{math.MaxInt, 0, api.ErrRange}, {0, math.MaxInt, api.ErrRange}, {math.MaxInt, math.MaxInt, api.ErrRange}, {1, math.MaxInt, api.ErrRange}, {math.MaxInt, 1, api.ErrRange},
		{math.MinInt, 0, api.ErrRange}, {0, math.MinInt, api.ErrRange}, {math.MinInt, math.MinInt, api.ErrRange}, {math.MinInt, math.MaxInt, api.ErrRange}, {math.MaxInt, math.MinInt, api.ErrRange},
	} {
		p := api.Patch{First: c, Head: x.head, Tail: x.tail}
		what := strconv.Itoa(x.head) + " and " + strconv.Itoa(x.tail)
		if x.want == api.OK {
			checkApply(t, what, l, p, from(c, append(slices.Clone(l.Changes[:x.head]), l.Changes[3-x.tail:]...)...))
			continue
		}
		checkNoTable(t, what, l, p, x.want)
		// It comes ahead of what is wrong with Put, and with what comes.
		p.Put = make([]api.Change, 1001)
		checkNoTable(t, what+", and too many", l, p, x.want)
		p.First, p.Put = api.Local{}, nil
		checkNoTable(t, what+", and no name", l, p, x.want)
	}
	checkNoTable(t, "of none", from(a), api.Patch{First: a, Head: 1}, api.ErrRange)
	checkNoTable(t, "of none", from(a), api.Patch{First: a, Tail: 1}, api.ErrRange)
}

// J1, P1: too many changes, and what is wrong with what comes.
func TestWhatComes(t *testing.T) {
	l := from(a, to(1, b), to(5, a), to(9, b))
	one := func(c api.Change) []api.Change { return []api.Change{c} }
	for _, x := range []struct {
		name string
		l    api.Table
		p    api.Patch
		want api.Errno
	}{
		{"1001 are put", l, api.Patch{First: a, Put: long(1001).Changes}, api.ErrMany},
		{"1001 are put, and First is wrong", l, api.Patch{First: far, Put: make([]api.Change, 1001)}, api.ErrMany},
		{"1000 are put behind one", l, api.Patch{First: far, Head: 1, Put: make([]api.Change, 1000)}, api.ErrMany},
		{"one is put behind 1000", long(1000), api.Patch{First: a, Head: 1000, Put: one(to(5000, c))}, api.ErrMany},
		{"one is put ahead of 1000", long(1000), api.Patch{First: a, Tail: 1000, Put: one(to(-1, c))}, api.ErrMany},
		{"nothing", l, api.Patch{}, api.ErrForm},
		{"First is too far", l, api.Patch{First: far, Put: one(to(1, api.Local{}))}, api.ErrRange},
		{"First is the first one", l, api.Patch{First: b, Head: 1}, api.ErrState},
		{"First is the one that is left", l, api.Patch{First: b, Tail: 1}, api.ErrState},
		{"at the time of the one ahead", l, api.Patch{First: a, Head: 1, Put: one(to(1, c))}, api.ErrState},
		{"what it is already", l, api.Patch{First: a, Head: 1, Put: one(to(3, b))}, api.ErrState},
		{"at the time of the one behind", l, api.Patch{First: a, Head: 1, Put: one(to(9, c)), Tail: 1}, api.ErrState},
		{"what it is behind", l, api.Patch{First: a, Put: one(to(3, b)), Tail: 1}, api.ErrState},
		{"nothing is between", l, api.Patch{First: a, Head: 1, Tail: 1}, api.ErrState},
		{"at no time", l, api.Patch{First: a, Head: 1, Put: one(to(lastTime+1, b))}, api.ErrRange},
		{"no name", l, api.Patch{First: a, Head: 1, Put: one(to(3, api.Local{}))}, api.ErrForm},
	} {
		checkNoTable(t, x.name, x.l, x.p, x.want)
	}
}

// drawTable: of few times and Locals, so that there is much that is the same.
func drawTable(r *rand.Rand) api.Table {
	locals := []api.Local{a, b, c}
	t := from(locals[r.Intn(3)])
	last := t.First
	for at := range 8 {
		if l := locals[r.Intn(3)]; l != last && r.Intn(4) > 0 {
			t.Changes = append(t.Changes, to(at, l))
			last = l
		}
	}
	return t
}

// J2: what is applied leads from one table to the other, and no other patch that does puts fewer changes.
func TestAnyTables(t *testing.T) {
	r := rand.New(rand.NewSource(16))
	for range 5000 {
		l, u := drawTable(r), drawTable(r)
		p, e := delta.Diff(l, u)
		if got, f := delta.Apply(l, p); !sameTable(got, u) || e != api.OK || f != api.OK {
			t.Fatalf("Apply(%v, %v) = %v, %d, %d; want %v", l, p, got, e, f, u)
		}
		if same := sameTable(l, u); same && (len(p.Put) != 0 || p.Head != len(l.Changes)) {
			t.Fatalf("Diff(%v, %v) = %v", l, u, p)
		}
		for head := range len(l.Changes) + 1 {
			for tail := range len(l.Changes) - head + 1 {
				if head+tail > len(u.Changes) {
					continue
				}
				q := api.Patch{First: u.First, Head: head, Tail: tail, Put: u.Changes[head : len(u.Changes)-tail]}
				got, e := delta.Apply(l, q)
				if leads := e == api.OK && sameTable(got, u); leads && (len(q.Put) < len(p.Put) || head > p.Head || head == p.Head && tail > p.Tail) {
					t.Fatalf("Diff(%v, %v) = %v; %v does it too", l, u, p, q)
				}
			}
		}
	}
}

// J1, P1: any patch of any table.
func TestAnyPatch(t *testing.T) {
	r := rand.New(rand.NewSource(17))
	came := 0
	for range 20000 {
		l := drawTable(r)
		n := len(l.Changes)
		p := api.Patch{First: drawTable(r).First, Head: r.Intn(n+3) - 1, Tail: r.Intn(n+3) - 1, Put: drawTable(r).Changes}
		p.Put = p.Put[:r.Intn(len(p.Put)+1)]
		got, e := delta.Apply(l, p)
		if p.Head < 0 || p.Tail < 0 || p.Head+p.Tail > n {
			if e != api.ErrRange {
				t.Fatalf("Apply(%v, %v) = %v, %d; want ErrRange", l, p, got, e)
			}
			continue
		}
		want := from(p.First, slices.Concat(l.Changes[:p.Head], p.Put, l.Changes[n-p.Tail:])...)
		if f := table.Check(want); e != f {
			t.Fatalf("Apply(%v, %v): %d; want %d", l, p, e, f)
		} else if e != api.OK {
			want = api.Table{}
		} else {
			came++
		}
		if !sameTable(got, want) {
			t.Fatalf("Apply(%v, %v) = %v; want %v", l, p, got, want)
		}
	}
	if came == 0 {
		t.Error("no patch led anywhere")
	}
}

// J2: from the table of a zone to that of a newer text of it.
func TestNewerText(t *testing.T) {
	text := "Rule eu 1981 max Mar lastSun 1:00u 1:00 S\nRule eu 1996 max Oct lastSun 1:00u 0 -\nZone Here/Town 0:10 - LMT 1880 Jan 1 0\n  1:00 eu CE%sT\n"
	older, _, _ := source.Parse(text)
	newer, _, _ := source.Parse(strings.ReplaceAll(text, "Rule eu 1996 max Oct", "Rule eu 1996 2050 Oct"))
	l, _ := table.Compile(older, "Here/Town")
	u, _ := table.Compile(newer, "Here/Town")
	p, e := delta.Diff(l, u)
	if p.Head == 0 || p.Head == len(l.Changes) || len(p.Put) > len(u.Changes)-p.Head || e != api.OK {
		t.Errorf("Diff = %v, %d", p, e)
	}
	checkApply(t, "newer", l, p, u)
}

// P2, P3: what is handed in is only read, the room behind lists too, and is not kept; answers are the caller's.
func TestMemory(t *testing.T) {
	roomOfT := []api.Change{to(1, b), to(5, a), to(9, b), to(11, c), to(77, far)}
	roomOfU := []api.Change{to(1, b), to(6, a), to(7, c), to(11, a), to(78, far)}
	beforeT, beforeU := slices.Clone(roomOfT), slices.Clone(roomOfU)
	l, u := from(a, roomOfT[:4]...), from(a, roomOfU[:4]...)
	overwrite := func(changes []api.Change) {
		changes = changes[:cap(changes)]
		for i := range changes {
			changes[i] = to(99, far)
		}
	}
	for range 2 {
		p, e := delta.Diff(l, u)
		if want := (api.Patch{First: a, Head: 1, Put: beforeU[1:4]}); !samePatch(p, want) || e != api.OK {
			t.Errorf("Diff = %v, %d; want %v", p, e, want)
		}
		overwrite(p.Put)
		empty, _ := delta.Diff(l, l)
		overwrite(empty.Put)
		for _, q := range []api.Patch{{First: a, Head: 1, Put: roomOfU[1:4]}, {First: a, Put: roomOfU[:4]}, {First: a, Head: 4}, {First: a, Tail: 4}, {First: b, Tail: 3}, {First: a, Head: 2, Put: roomOfU[2:3], Tail: 2}, {First: a}} {
			got, e := delta.Apply(l, q)
			if e != api.OK {
				t.Errorf("Apply(%v): %d", q, e)
			}
			overwrite(got.Changes)
		}
		delta.Apply(l, api.Patch{First: a, Head: 5})
		if !slices.Equal(roomOfT, beforeT) || !slices.Equal(roomOfU, beforeU) {
			t.Fatalf("something was changed: %v, %v", roomOfT, roomOfU)
		}
	}
	p, _ := delta.Diff(l, u)
	got, _ := delta.Apply(l, p)
	overwrite(roomOfT)
	overwrite(roomOfU)
	if !slices.Equal(p.Put, beforeU[1:4]) || !sameTable(got, from(a, beforeU[:4]...)) {
		t.Errorf("an answer was changed: %v, %v", p, got)
	}
	overwrite(p.Put)
	if !sameTable(got, from(a, beforeU[:4]...)) {
		t.Errorf("a table was kept by its patch: %v", got)
	}
}

package release_test

import (
	"reflect"
	"slices"
	"strconv"
	"strings"
	"testing"
	"time"

	"dateline/api"
	"dateline/release"
	"dateline/source"
	"dateline/table"
)

const example = "Rule eu 1981 max Mar lastSun 1:00u 1:00 S\nRule eu 1996 max Oct lastSun 1:00u 0 -\nZone Here/Town 0:10 - LMT 1880 Jan 1 0\n  1:00 eu CE%sT\nLink Here/Town Old\n"

var (
	a   = api.Local{Shift: 3600, Name: "A"}
	b   = api.Local{Shift: 7200, Save: 3600, Name: "B"}
	c   = api.Local{Shift: -75600, Name: "C"}
	far = api.Local{Shift: 75601, Name: "F"}
)

func to(at int, l api.Local) api.Change { return api.Change{At: at, Local: l} }

// named table, which is a at first.
func named(name string, changes ...api.Change) api.Named {
	return api.Named{Name: name, Table: api.Table{First: a, Changes: changes}}
}

func tables(names ...string) []api.Named {
	var l []api.Named
	for _, name := range names {
		l = append(l, named(name))
	}
	return l
}

func link(to, name string) api.Link { return api.Link{To: to, Name: name} }

func sameTable(t, u api.Table) bool {
	return t.First == u.First && slices.Equal(t.Changes, u.Changes)
}

func sameNamed(m, n api.Named) bool { return m.Name == n.Name && sameTable(m.Table, n.Table) }

func same(r, s api.Release) bool {
	return slices.EqualFunc(r.Tables, s.Tables, sameNamed) && slices.Equal(r.Links, s.Links)
}

func samePatch(p, q api.NamedPatch) bool {
	return p.Name == q.Name && p.Patch.First == q.Patch.First && p.Patch.Head == q.Patch.Head && p.Patch.Tail == q.Patch.Tail && slices.Equal(p.Patch.Put, q.Patch.Put)
}

func sameUpdate(u, v api.Update) bool {
	return slices.Equal(u.Drop, v.Drop) && slices.EqualFunc(u.Put, v.Put, sameNamed) && slices.EqualFunc(u.Patch, v.Patch, samePatch) && slices.Equal(u.Links, v.Links)
}

func parsed(t *testing.T, text string) api.Source {
	t.Helper()
	s, n, e := source.Parse(text)
	if e != api.OK {
		t.Fatalf("Parse(%q): %d, %d", text, n, e)
	}
	return s
}

func made(t *testing.T, text string) api.Release {
	t.Helper()
	r, e := release.Make(parsed(t, text))
	if e != api.OK {
		t.Fatalf("Make(%q): %d", text, e)
	}
	return r
}

// K1: the tables of all zones, and the links, both rising.
func TestMake(t *testing.T) {
	for _, x := range []struct {
		text  string
		names []string
		links []api.Link
	}{
		{"", nil, nil},
		{example, []string{"Here/Town"}, []api.Link{link("Here/Town", "Old")}},
		{"Zone B 0 - X\nZone A 1:00 - Y\n", []string{"A", "B"}, nil},
		{"Zone B 0 - X\nZone a 0 - X\nZone AA 0 - X\nZone A 0 - X\nZone A/B 0 - X\nZone A-B 0 - X\nZone A+B 0 - X\nZone A_B 0 - X\nZone A1 0 - X\n", []string{"A", "A+B", "A-B", "A/B", "A1", "AA", "A_B", "B", "a"}, nil},
		{"Link A z\nLink A Z\nLink B Bb\nLink A B1\nZone B 0 - X\nZone A 0 - X\n", []string{"A", "B"}, []api.Link{link("A", "B1"), link("B", "Bb"), link("A", "Z"), link("A", "z")}},
	} {
		s := parsed(t, x.text)
		r, e := release.Make(s)
		if e != api.OK || !slices.Equal(r.Links, x.links) || release.Check(r) != api.OK {
			t.Errorf("Make(%q): %v, %d; Check: %d", x.text, r.Links, e, release.Check(r))
		}
		var names []string
		for _, n := range r.Tables {
			names = append(names, n.Name)
			if want, _ := table.Compile(s, n.Name); !sameTable(n.Table, want) {
				t.Errorf("Make(%q): of %s it is %v; want %v", x.text, n.Name, n.Table, want)
			}
		}
		if !slices.Equal(names, x.names) {
			t.Errorf("Make(%q): %v; want %v", x.text, names, x.names)
		}
	}
}

// thousandOne turns, each of which is a change, by the years of rules a and b, none of which has too many.
func thousandOne() string {
	var text strings.Builder
	for month := 1; month <= 10; month++ {
		text.WriteString("Rule a 1900 1999 " + time.Month(month).String()[:3] + " 10 0u " + strconv.Itoa(month%2) + ":00 -\n")
	}
	return text.String() + "Rule b 2000 only Jan 1 0u 1:00 -\n"
}

// K1, P1: errors of Check of chapter 6 first, then those of Compile, zone by zone, rising by name.
func TestMakeErrors(t *testing.T) {
	const many = " 0 a X 2000 Jan 1 0u\n 0 b X\n"
	for _, x := range []struct {
		text string
		want api.Errno
	}{
		{"Zone A" + many, api.ErrMany},
		{"Zone A 0 - %s\n", api.ErrForm},
		{"Zone A 0 - X\nZone C 0 - X\nZone B 0 - %s\n", api.ErrForm},
		{"Zone B 0 - %s\nZone A" + many, api.ErrMany},
		{"Zone A" + many + "Zone B 0 - %s\n", api.ErrMany},
		{"Zone B" + many + "Zone A 0 - %s\n", api.ErrForm},
		{"Zone A 0 - %s\nZone B" + many, api.ErrForm},
		{"Link A B\n", api.ErrNone},
		{"Zone A 0 - %s\nLink B C\n", api.ErrNone},
		{"Zone A 0 - %s\nZone B 0 no X\n", api.ErrNone},
		{"Zone A 0 - %s\nLink A B\nLink A B\n", api.ErrTwice},
		{"Zone A 0 - %s\nZone Y 0 - Y 1900 Jan 1 0\n 1:00 - Y 1899 Jan 1 0\n 2:00 - Y\n", api.ErrState},
	} {
		if r, e := release.Make(parsed(t, thousandOne()+x.text)); !same(r, api.Release{}) || e != x.want {
			t.Errorf("Make(%q) = %v, %d; want %d", x.text, r, e, x.want)
		}
	}
	for _, x := range []struct {
		name string
		do   func(s *api.Source)
		want api.Errno
	}{
		{"41 rules", func(s *api.Source) { s.Rules = make([]api.Rule, 41) }, api.ErrMany},
		{"21 zones", func(s *api.Source) { s.Zones = make([]api.Zone, 21) }, api.ErrMany},
		{"21 links", func(s *api.Source) { s.Links = make([]api.Link, 21) }, api.ErrMany},
		{"no name", func(s *api.Source) { s.Zones[0].Name = "" }, api.ErrForm},
		{"a clock that is none", func(s *api.Source) { s.Rules[0].Clock = 4 }, api.ErrKind},
		{"too much saved", func(s *api.Source) { s.Rules[0].Save = 10801 }, api.ErrRange},
		{"a zone without eras", func(s *api.Source) { s.Zones[0].Eras = nil }, api.ErrForm},
		{"a wrong rule, and no zones", func(s *api.Source) { s.Zones, s.Links, s.Rules[0].Clock = nil, nil, 4 }, api.ErrKind},
	} {
		s := parsed(t, example)
		x.do(&s)
		if r, e := release.Make(s); !same(r, api.Release{}) || e != x.want {
			t.Errorf("%s: %v, %d; want %d", x.name, r, e, x.want)
		}
	}
}

// K1: the table of a name, or of the one that its link is to.
func TestFind(t *testing.T) {
	r := api.Release{
		Tables: []api.Named{named("A", to(1, b)), named("B"), named("M", to(2, b), to(3, c))},
		Links:  []api.Link{link("B", "AA"), link("M", "C"), link("A", "Z")},
	}
	for _, x := range []struct {
		name string
		want api.Table
	}{
		{"A", r.Tables[0].Table}, {"B", r.Tables[1].Table}, {"M", r.Tables[2].Table},
		{"AA", r.Tables[1].Table}, {"C", r.Tables[2].Table}, {"Z", r.Tables[0].Table},
	} {
		if got, e := release.Find(r, x.name); !sameTable(got, x.want) || e != api.OK {
			t.Errorf("Find(%q) = %v, %d; want %v", x.name, got, e, x.want)
		}
	}
	for _, name := range []string{"", "a", "AAA", "BB", "C ", "0", "\xff", "z", "ZZ", strings.Repeat("A", 1000)} {
		if got, e := release.Find(r, name); !sameTable(got, api.Table{}) || e != api.ErrNone {
			t.Errorf("Find(%q) = %v, %d; want ErrNone", name, got, e)
		}
	}
	if got, e := release.Find(api.Release{}, "A"); !sameTable(got, api.Table{}) || e != api.ErrNone {
		t.Errorf("of nothing: %v, %d", got, e)
	}
	// A link that is to itself, or to a link, is none.
	for _, l := range []api.Link{link("N", "N"), link("C", "N"), link("", "N")} {
		s := r
		s.Links = []api.Link{link("M", "C"), l}
		if got, e := release.Find(s, "A"); !sameTable(got, api.Table{}) || e != api.ErrNone {
			t.Errorf("with %v: %v, %d; want ErrNone", l, got, e)
		}
	}
}

// K1, K2: names stand in order byte by byte, and where there are as many tables and links as there may be, all are found.
func TestLimits(t *testing.T) {
	var s api.Source
	for i := range 20 {
		name := strings.Repeat("n", 22) + strconv.Itoa(10+(i*7)%20)
		s.Zones = append(s.Zones, api.Zone{Name: name, Eras: []api.Era{{Shift: i, Format: "X", Open: true}}})
		s.Links = append(s.Links, link(name, "L"+strconv.Itoa((i*3)%20)))
	}
	r, e := release.Make(s)
	if len(r.Tables) != 20 || len(r.Links) != 20 || e != api.OK || release.Check(r) != api.OK {
		t.Fatalf("Make: %d tables, %d links, %d; Check: %d", len(r.Tables), len(r.Links), e, release.Check(r))
	}
	for i, z := range s.Zones {
		for _, name := range []string{z.Name, s.Links[i].Name} {
			if got, e := release.Find(r, name); got.First.Shift != i || e != api.OK {
				t.Errorf("Find(%q) = %v, %d; want a shift of %d", name, got, e, i)
			}
		}
	}
	checkDiff(t, "all go", r, api.Release{}, api.Update{Drop: namesOf(r)})
	checkDiff(t, "all come", api.Release{}, r, api.Update{Put: r.Tables, Links: r.Links})
}

func namesOf(r api.Release) []string {
	var l []string
	for _, n := range r.Tables {
		l = append(l, n.Name)
	}
	return l
}

// overwrite all of a release, and the spare room behind its lists too.
func overwrite(r api.Release) {
	overwriteTables(r.Tables)
	fill(r.Links, api.Link{To: "x", Name: "x"})
}

func overwriteTables(l []api.Named) {
	for _, n := range l {
		fill(n.Table.Changes, to(99, far))
	}
	fill(l, named("x"))
}

func fill[T any](list []T, with T) {
	list = list[:cap(list)]
	for i := range list {
		list[i] = with
	}
}

// withRoom: the same list, with something in the spare room behind it.
func withRoom[T any](spare T, list ...T) []T {
	return append(append(make([]T, 0, len(list)+1), list...), spare)[:len(list)]
}

// behind a list: what is in the spare room of withRoom.
func behind[T any](list []T) T { return list[:len(list)+1][len(list)] }

func roomyTable(name string, changes ...api.Change) api.Named {
	return api.Named{Name: name, Table: api.Table{First: a, Changes: withRoom(to(77, far), changes...)}}
}

func roomyRelease() api.Release {
	return api.Release{
		Tables: withRoom(named("Spare"), roomyTable("A", to(1, b), to(5, c)), roomyTable("B"), roomyTable("C", to(3, b))),
		Links:  withRoom(link("x", "Spare"), link("A", "D"), link("B", "E")),
	}
}

func checkRoom(t *testing.T, what string, r, want api.Release) {
	t.Helper()
	isRoom := behind(r.Tables).Name == "Spare" && behind(r.Links).Name == "Spare"
	for _, n := range r.Tables {
		isRoom = isRoom && behind(n.Table.Changes) == to(77, far)
	}
	if !same(r, want) || !isRoom {
		t.Fatalf("%s was changed: %v", what, r)
	}
}

// P2, P3: releases that are handed in are only read, the room behind lists too, and are not kept; answers are the caller's.
func TestMemory(t *testing.T) {
	r, s := roomyRelease(), roomyRelease()
	s.Tables[0], s.Tables[1] = roomyTable("A", to(1, b), to(4, a), to(5, c)), roomyTable("Bb", to(8, c))
	s.Links[1].To = "C"
	before, next := roomyRelease(), api.Release{
		Tables: []api.Named{named("A", to(1, b), to(4, a), to(5, c)), named("Bb", to(8, c)), named("C", to(3, b))},
		Links:  []api.Link{link("A", "D"), link("C", "E")},
	}
	want := api.Update{Drop: []string{"B"}, Put: []api.Named{named("Bb", to(8, c))}, Links: next.Links, Patch: []api.NamedPatch{{Name: "A", Patch: api.Patch{First: a, Head: 1, Tail: 1, Put: []api.Change{to(4, a)}}}}}
	for range 2 {
		release.Check(r)
		found, _ := release.Find(r, "D")
		fill(found.Changes, to(99, far))
		u, _ := release.Diff(r, s)
		if !sameUpdate(u, want) {
			t.Errorf("Diff = %v; want %v", u, want)
		}
		got, e := release.Apply(r, u)
		if !same(got, next) || e != api.OK {
			t.Errorf("Apply = %v, %d; want %v", got, e, next)
		}
		if !sameUpdate(u, want) {
			t.Errorf("an update was changed: %v", u)
		}
		overwrite(got)
		fill(u.Drop, "x")
		overwriteTables(u.Put)
		fill(u.Patch[0].Patch.Put, to(99, far))
		fill(u.Patch, api.NamedPatch{})
		fill(u.Links, link("x", "x"))
		checkRoom(t, "r", r, before)
		checkRoom(t, "s", s, next)
	}
	u, _ := release.Diff(r, s)
	got, _ := release.Apply(r, u)
	found, _ := release.Find(r, "A")
	overwrite(r)
	overwrite(s)
	if !sameUpdate(u, want) || !same(got, next) || !sameTable(found, before.Tables[0].Table) {
		t.Errorf("an answer was changed: %v, %v, %v", u, got, found)
	}
}

// P2: an update is only read, the room behind its lists too; what is put twice, under two names, comes as two lists.
func TestUpdateIsOnlyRead(t *testing.T) {
	given := func() api.Update {
		changes := withRoom(to(77, far), to(1, b), to(2, c))
		return api.Update{
			Drop:  withRoom("Spare", "C"),
			Put:   withRoom(named("Spare"), named("Z", changes...), named("D", changes...)),
			Patch: withRoom(api.NamedPatch{Name: "Spare"}, api.NamedPatch{Name: "A", Patch: api.Patch{First: a, Put: changes}}, api.NamedPatch{Name: "B", Patch: api.Patch{First: a, Put: changes}}),
			Links: withRoom(link("x", "Spare"), link("D", "Y")),
		}
	}
	r, u := api.Release{Tables: tables("A", "B", "C")}, given()
	want := api.Release{Links: []api.Link{link("D", "Y")}}
	for _, name := range []string{"A", "B", "D", "Z"} {
		want.Tables = append(want.Tables, named(name, to(1, b), to(2, c)))
	}
	got, e := release.Apply(r, u)
	if !same(got, want) || e != api.OK {
		t.Fatalf("Apply = %v, %d; want %v", got, e, want)
	}
	for i := range got.Tables {
		fill(got.Tables[i].Table.Changes, to(99, far))
		for k := i + 1; k < len(got.Tables); k++ {
			if !sameNamed(got.Tables[k], want.Tables[k]) {
				t.Errorf("table %d changed with table %d", k, i)
			}
		}
	}
	overwrite(got)
	before := given()
	if !sameUpdate(u, before) || behind(u.Drop) != "Spare" || behind(u.Put).Name != "Spare" || behind(u.Patch).Name != "Spare" || behind(u.Links).Name != "Spare" || behind(u.Put[0].Table.Changes) != to(77, far) {
		t.Errorf("an update was changed: %v", u)
	}
	if !slices.EqualFunc(r.Tables, tables("A", "B", "C"), sameNamed) {
		t.Errorf("a release was changed: %v", r)
	}
}

// P2, P3: a source is only read, and is not kept.
func TestSourceIsOnlyRead(t *testing.T) {
	const text = example + "Zone Here/Elder 0 - X\nLink Here/Town Elder\n"
	s, before := parsed(t, text), parsed(t, text)
	s.Zones = withRoom(api.Zone{Name: "Spare"}, s.Zones...)
	s.Links = withRoom(link("x", "Spare"), s.Links...)
	r, _ := release.Make(s)
	if !reflect.DeepEqual(s, before) || behind(s.Zones).Name != "Spare" || behind(s.Links).Name != "Spare" {
		t.Errorf("a source was changed: %v", s)
	}
	other, _ := release.Make(s)
	overwrite(other)
	if !reflect.DeepEqual(s, before) || behind(s.Links).Name != "Spare" {
		t.Errorf("a source is a part of its release: %v", s)
	}
	fill(s.Zones, api.Zone{})
	fill(s.Links, api.Link{})
	if !same(r, made(t, text)) {
		t.Errorf("a release was changed: %v", r)
	}
}

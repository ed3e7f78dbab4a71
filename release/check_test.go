package release_test

import (
	"math/rand"
	"slices"
	"strconv"
	"strings"
	"testing"

	"dateline/api"
	"dateline/release"
)

// right release, of three tables and three links, new each time.
func right() api.Release {
	return api.Release{
		Tables: []api.Named{named("B", to(1, b)), named("D"), named("F", to(1, b), to(2, c))},
		Links:  []api.Link{link("B", "A"), link("D", "C"), link("B", "E")},
	}
}

type wrong struct {
	name string
	want api.Errno
	do   func(r *api.Release)
}

// wrongs, in the order in which Check comes to them, list by list; of one list there is but one in a release.
func wrongs() [][]wrong {
	all := [][]wrong{{
		{"21 tables", api.ErrMany, func(r *api.Release) { r.Tables = append(r.Tables, tables(make([]string, 18)...)...) }},
		{"21 links", api.ErrMany, func(r *api.Release) { r.Links = append(r.Links, make([]api.Link, 18)...) }},
	}}
	for i := range 3 {
		all = append(all, wrongTable(i)...)
	}
	for i := range 3 {
		all = append(all, wrongLink(i)...)
	}
	return all
}

// noNames: texts that are no names; some stand behind all names of right, some ahead of them.
func noNames() []string {
	return []string{"", "9", "_A", "Z Z", "Z.", "Z\x00", "Z\n", "Z\xc3\xa4", "\xff", strings.Repeat("Z", 25), strings.Repeat("Z", 2000)}
}

func wrongTable(i int) [][]wrong {
	where := "table " + strconv.Itoa(i) + ": "
	var form []wrong
	for _, name := range noNames() {
		form = append(form, wrong{where + strconv.Quote(name), api.ErrForm, func(r *api.Release) { r.Tables[i].Name = name }})
	}
	local := func(name string, want api.Errno, l api.Local) wrong {
		return wrong{where + name, want, func(r *api.Release) { r.Tables[i].Table.First = l }}
	}
	changes := func(name string, want api.Errno, l ...api.Change) wrong {
		return wrong{where + name, want, func(r *api.Release) { r.Tables[i].Table.Changes = l }}
	}
	var state []wrong
	for _, name := range [][]string{{}, {"A", "AA", "B"}, {"A", "B", "Cc", "D"}}[i] {
		state = append(state, wrong{where + "called " + name, api.ErrState, func(r *api.Release) { r.Tables[i].Name = name }})
	}
	return [][]wrong{
		form,
		{changes("1001 changes", api.ErrMany, make([]api.Change, 1001)...)},
		{local("no name of its time", api.ErrForm, api.Local{}), local("too far", api.ErrRange, far)},
		{changes("what it is", api.ErrState, to(1, a)), changes("at no time", api.ErrRange, to(253402300800, b)), changes("no name later", api.ErrForm, to(1, api.Local{}))},
		state,
	}
}

func wrongLink(i int) [][]wrong {
	where := "link " + strconv.Itoa(i) + ": "
	var form, state, twice, none []wrong
	for _, name := range noNames() {
		form = append(form, wrong{where + strconv.Quote(name), api.ErrForm, func(r *api.Release) { r.Links[i].Name = name }})
	}
	// One of them is a table's too.
	for _, name := range [][]string{{}, {"A"}, {"A", "AA", "B", "C"}}[i] {
		state = append(state, wrong{where + "called " + name, api.ErrState, func(r *api.Release) { r.Links[i].Name = name }})
	}
	table := []string{"B", "D", "F"}[i]
	twice = append(twice, wrong{where + "called " + table, api.ErrTwice, func(r *api.Release) { r.Links[i].Name = table }})
	for _, name := range append(noNames(), "A", "C", "E", "Bb", "b") {
		none = append(none, wrong{where + "to " + strconv.Quote(name), api.ErrNone, func(r *api.Release) { r.Links[i].To = name }})
	}
	return [][]wrong{form, state, twice, none}
}

// checkWrong: Check, and all calls that are handed a release, answer an error, and nothing else.
func checkWrong(t *testing.T, what string, r api.Release, want api.Errno) {
	t.Helper()
	if e := release.Check(r); e != want {
		t.Errorf("%s: Check: %d; want %d", what, e, want)
	}
	for _, name := range []string{"B", "None"} {
		if l, e := release.Find(r, name); !sameTable(l, api.Table{}) || e != want {
			t.Errorf("%s: Find(%s): %v, %d; want %d", what, name, l, e, want)
		}
	}
	if u, e := release.Diff(r, right()); !sameUpdate(u, api.Update{}) || e != want {
		t.Errorf("%s: Diff of it: %v, %d; want %d", what, u, e, want)
	}
	if u, e := release.Diff(right(), r); !sameUpdate(u, api.Update{}) || e != want {
		t.Errorf("%s: Diff to it: %v, %d; want %d", what, u, e, want)
	}
	for _, u := range []api.Update{{}, {Drop: []string{"None"}}, {Patch: []api.NamedPatch{{Name: "None"}}}, {Put: tables("B", "B")}, {Drop: namesOf(r)}} {
		if s, e := release.Apply(r, u); !same(s, api.Release{}) || e != want {
			t.Errorf("%s: Apply: %v, %d; want %d", what, s, e, want)
		}
	}
}

// K1, K2, P1: each error of Check, and all calls have it.
func TestCheckErrors(t *testing.T) {
	if e := release.Check(right()); e != api.OK {
		t.Fatalf("nothing is wrong, but Check: %d", e)
	}
	for _, list := range wrongs() {
		for _, w := range list {
			r := right()
			w.do(&r)
			checkWrong(t, w.name, r, w.want)
		}
	}
}

// K1, P1: where several errors apply, the one that is named first comes, thing by thing.
func TestCheckOrder(t *testing.T) {
	all := wrongs()
	for i, list := range all {
		for _, later := range all[i+1:] {
			for _, w := range list {
				for _, x := range later {
					r := right()
					x.do(&r)
					// Where both are of one name, or of one list, this one stays.
					w.do(&r)
					if e := release.Check(r); e != w.want {
						t.Errorf("%s, and %s: %d; want %d", w.name, x.name, e, w.want)
					}
				}
			}
		}
	}
}

// K2, P1: of Diff what is wrong with r comes ahead of what is wrong with s.
func TestDiffOrder(t *testing.T) {
	for _, list := range wrongs() {
		for _, w := range list {
			for _, other := range []wrong{wrongs()[0][0], wrongs()[1][0], wrongs()[3][1], wrongs()[10][0]} {
				r, s := right(), right()
				w.do(&r)
				other.do(&s)
				if u, e := release.Diff(r, s); !sameUpdate(u, api.Update{}) || e != w.want {
					t.Errorf("%s, to %s: %v, %d; want %d", w.name, other.name, u, e, w.want)
				}
			}
		}
	}
}

// K1: releases of which nothing is wrong.
func TestCheckIsOK(t *testing.T) {
	long := strings.Repeat("n", 24)
	most := named("M")
	for i := range 1000 {
		most.Table.Changes = append(most.Table.Changes, to(i, []api.Local{b, a}[i%2]))
	}
	for _, r := range []api.Release{
		{},
		{Tables: []api.Named{}, Links: []api.Link{}},
		{Tables: tables("A")},
		{Tables: tables("A", "A+", "A-", "A/", "A0", "AA", "A_", "Aa", "B", "a", "aB")},
		{Tables: tables(long, long[:23]+"o"), Links: []api.Link{link(long, long[:23]), link(long, long[:23]+"m"), link(long[:23]+"o", long[:23]+"p")}},
		{Tables: []api.Named{most}, Links: []api.Link{link("M", "L"), link("M", "MM")}},
	} {
		if e := release.Check(r); e != api.OK {
			t.Errorf("Check(%.200v): %d", r, e)
		}
	}
}

// slowCheck of names, by another way: of any tables that are as a, and any links.
func slowCheck(names []string, links []api.Link) api.Errno {
	isName := func(s string) bool { return s != "" && strings.Trim(s, "abAB-/") == "" && s[0] != '-' && s[0] != '/' }
	for i, name := range names {
		if !isName(name) {
			return api.ErrForm
		}
		if i > 0 && strings.Compare(names[i-1], name) >= 0 {
			return api.ErrState
		}
	}
	for i, l := range links {
		switch {
		case !isName(l.Name):
			return api.ErrForm
		case i > 0 && strings.Compare(links[i-1].Name, l.Name) >= 0:
			return api.ErrState
		case slices.Contains(names, l.Name):
			return api.ErrTwice
		case !slices.Contains(names, l.To):
			return api.ErrNone
		}
	}
	return api.OK
}

// K1: any names, held against another way to check them.
func TestAnyNames(t *testing.T) {
	r := rand.New(rand.NewSource(18))
	seen := map[api.Errno]int{}
	name := func() string {
		s := make([]byte, 1+r.Intn(2))
		for i := range s {
			s[i] = "aabbAABB-/"[r.Intn(10)]
		}
		if r.Intn(30) == 0 {
			return "9"
		}
		return string(s)
	}
	for range 50000 {
		var names []string
		var links []api.Link
		for range r.Intn(4) {
			names = append(names, name())
		}
		if r.Intn(4) > 0 {
			slices.Sort(names)
		}
		for range r.Intn(3) {
			l := link(name(), name())
			if len(names) > 0 && r.Intn(4) > 0 {
				l.To = names[r.Intn(len(names))]
			}
			links = append(links, l)
		}
		want := slowCheck(names, links)
		seen[want]++
		if e := release.Check(api.Release{Tables: tables(names...), Links: links}); e != want {
			t.Fatalf("Check(%v, %v): %d; want %d", names, links, e, want)
		}
	}
	for _, e := range []api.Errno{api.OK, api.ErrForm, api.ErrState, api.ErrTwice, api.ErrNone} {
		if seen[e] < 100 {
			t.Errorf("%d was seen %d times", e, seen[e])
		}
	}
}

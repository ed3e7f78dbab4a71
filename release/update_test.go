package release_test

import (
	"math/rand"
	"slices"
	"strconv"
	"strings"
	"testing"

	"dateline/api"
	"dateline/delta"
	"dateline/release"
)

func checkApply(t *testing.T, what string, r api.Release, u api.Update, want api.Release) {
	t.Helper()
	if got, e := release.Apply(r, u); !same(got, want) || e != api.OK {
		t.Errorf("%s: Apply(%v, %v) = %v, %d; want %v", what, r, u, got, e, want)
	}
}

// checkDiff, and that what is applied leads from one release to the other.
func checkDiff(t *testing.T, what string, r, s api.Release, want api.Update) {
	t.Helper()
	if u, e := release.Diff(r, s); !sameUpdate(u, want) || e != api.OK {
		t.Errorf("%s: Diff = %v, %d; want %v", what, u, e, want)
	}
	checkApply(t, what, r, want, s)
}

func only(tables ...api.Named) api.Release { return api.Release{Tables: tables} }

func patch(name string, p api.Patch) api.NamedPatch { return api.NamedPatch{Name: name, Patch: p} }

// K2, K3: what goes, what comes, what is patched, all rising by name; and the links.
func TestDiff(t *testing.T) {
	for _, x := range []struct {
		name string
		r, s api.Release
		want api.Update
	}{
		{"nothing", api.Release{}, api.Release{}, api.Update{}},
		{"the same", right(), right(), api.Update{Links: right().Links}},
		{"all go", right(), api.Release{}, api.Update{Drop: []string{"B", "D", "F"}}},
		{"all come", api.Release{}, right(), api.Update{Put: right().Tables, Links: right().Links}},
		{"links go", right(), only(right().Tables...), api.Update{}},
		{"a link is to another", right(), api.Release{Tables: right().Tables, Links: []api.Link{link("F", "A")}}, api.Update{Links: []api.Link{link("F", "A")}}},
		{"some go, some come", only(tables("A", "B", "C", "E")...), only(tables("B", "D", "Dd", "E", "F")...), api.Update{Drop: []string{"A", "C"}, Put: tables("D", "Dd", "F")}},
		{"all are others", only(tables("A", "C")...), only(tables("B", "D")...), api.Update{Drop: []string{"A", "C"}, Put: tables("B", "D")}},
		{"a name becomes longer", only(tables("A")...), only(tables("AA")...), api.Update{Drop: []string{"A"}, Put: tables("AA")}},
		{"patched", only(named("A", to(1, b), to(3, a), to(9, c)), named("B"), named("C")), only(named("A", to(1, b), to(4, a), to(9, c)), named("B"), named("C", to(7, b))), api.Update{Patch: []api.NamedPatch{
			patch("A", api.Patch{First: a, Head: 1, Tail: 1, Put: []api.Change{to(4, a)}}), patch("C", api.Patch{First: a, Put: []api.Change{to(7, b)}}),
		}}},
		{"First alone", only(named("A", to(1, b))), only(api.Named{Name: "A", Table: api.Table{First: c, Changes: []api.Change{to(1, b)}}}), api.Update{Patch: []api.NamedPatch{patch("A", api.Patch{First: c, Head: 1})}}},
		{"nothing is put", only(named("A", to(1, b))), only(named("A")), api.Update{Patch: []api.NamedPatch{patch("A", api.Patch{First: a})}}},
		{"a table becomes a link", only(tables("A", "B")...), api.Release{Tables: tables("A"), Links: []api.Link{link("A", "B")}}, api.Update{Drop: []string{"B"}, Links: []api.Link{link("A", "B")}}},
		{"a link becomes a table", api.Release{Tables: tables("A"), Links: []api.Link{link("A", "B")}}, only(tables("A", "B")...), api.Update{Put: tables("B")}},
	} {
		checkDiff(t, x.name, x.r, x.s, x.want)
	}
}

// K2: updates that Diff does not make, but that lead somewhere.
func TestApply(t *testing.T) {
	r := only(named("B", to(1, b)), named("D"))
	toC := api.Patch{First: a, Head: 1, Put: []api.Change{to(5, c)}}
	backToA := api.Patch{First: a, Head: 1, Put: []api.Change{to(5, a)}, Tail: 1}
	for _, x := range []struct {
		name string
		u    api.Update
		want api.Release
	}{
		{"nothing", api.Update{}, r},
		{"not rising", api.Update{Drop: []string{"D", "B"}, Put: tables("Z", "A", "M", "AA")}, only(tables("A", "AA", "M", "Z")...)},
		{"ahead, between and behind", api.Update{Put: tables("E", "A", "C")}, only(named("A"), named("B", to(1, b)), named("C"), named("D"), named("E"))},
		{"goes and comes", api.Update{Drop: []string{"B"}, Put: []api.Named{named("B", to(2, c))}}, only(named("B", to(2, c)), named("D"))},
		{"patched twice", api.Update{Patch: []api.NamedPatch{patch("B", toC), patch("D", api.Patch{First: b}), patch("B", api.Patch{First: a, Head: 2, Put: []api.Change{to(6, a)}})}}, only(named("B", to(1, b), to(5, c), to(6, a)), api.Named{Name: "D", Table: api.Table{First: b}})},
		{"patched to and fro", api.Update{Patch: []api.NamedPatch{patch("B", toC), patch("B", api.Patch{First: a, Head: 1})}}, r},
		{"patched to what it is", api.Update{Patch: []api.NamedPatch{patch("B", api.Patch{First: a, Tail: 1})}}, r},
		{"links", api.Update{Put: tables("Z"), Links: []api.Link{link("Z", "A"), link("B", "C")}}, api.Release{Tables: append(slices.Clone(r.Tables), named("Z")), Links: []api.Link{link("Z", "A"), link("B", "C")}}},
	} {
		checkApply(t, x.name, r, x.u, x.want)
	}
	if got, e := release.Apply(r, api.Update{Patch: []api.NamedPatch{patch("B", backToA)}}); !same(got, api.Release{}) || e != api.ErrRange {
		t.Errorf("more stay than there are: %v, %d", got, e)
	}
	// What is left of the elder links does not count, nor whether they are to what goes.
	checkApply(t, "without links", right(), api.Update{Drop: []string{"B"}}, only(right().Tables[1:]...))
	checkApply(t, "a link's name", right(), api.Update{Put: tables("A")}, only(append(tables("A"), right().Tables...)...))
	// More than there may be, for a while.
	var many []string
	for i := range 20 {
		many = append(many, "N"+strconv.Itoa(10+i))
	}
	checkApply(t, "20 for 20", only(tables(many...)...), api.Update{Drop: many, Put: tables(many...)}, only(tables(many...)...))
}

type step struct {
	name string
	want api.Errno
	do   func(u *api.Update)
}

// steps that go wrong with right, in the order in which Apply comes to them; of one list there is but one in an update.
func steps() [][]step {
	drop := func(name string, names ...string) step {
		return step{name, api.ErrNone, func(u *api.Update) { u.Drop = append(u.Drop, names...) }}
	}
	patched := func(name string, want api.Errno, p ...api.NamedPatch) step {
		return step{name, want, func(u *api.Update) { u.Patch = append(u.Patch, p...) }}
	}
	put := func(name string, want api.Errno, n ...api.Named) step {
		return step{name, want, func(u *api.Update) { u.Put = append(u.Put, n...) }}
	}
	links := func(name string, want api.Errno, l ...api.Link) step {
		return step{name, want, func(u *api.Update) { u.Links = l }}
	}
	stays := api.Patch{First: a, Head: 1}
	return [][]step{
		{drop("dropped, and is not there", "Z"), drop("a link's name", "A"), drop("no name", ""), drop("dropped twice", "F", "F"), drop("a second one", "F", "Z")},
		{patched("patched, and is not there", api.ErrNone, patch("Z", stays)), patched("a link is patched", api.ErrNone, patch("A", stays)), patched("no name is patched", api.ErrNone, patch("", api.Patch{Head: -1})),
			patched("a second one is not there", api.ErrNone, patch("B", stays), patch("Z", stays), patch("B", api.Patch{Head: -1})),
			patched("too many stay", api.ErrRange, patch("B", api.Patch{First: a, Head: 2})), patched("below 0", api.ErrRange, patch("B", api.Patch{First: a, Tail: -1}), patch("Z", stays)),
			patched("1001 are put", api.ErrMany, patch("B", api.Patch{First: a, Put: make([]api.Change, 1001)})), patched("no name of its time", api.ErrForm, patch("B", api.Patch{})), patched("what it is", api.ErrState, patch("B", api.Patch{First: b, Head: 1})),
			patched("too many stay of a shorter one", api.ErrRange, patch("B", api.Patch{First: a}), patch("B", stays))},
		{put("put, and is there", api.ErrTwice, named("B")), put("put as it is there", api.ErrTwice, right().Tables[1]), put("put twice", api.ErrTwice, named("Z"), named("Z")), put("put twice, others between", api.ErrTwice, tables("Z", "Y", "X", "Z")...), put("no name is put twice", api.ErrTwice, named(""), named("")), put("another is no table", api.ErrTwice, api.Named{}, named("D")), put("too many, and one of them twice", api.ErrTwice, tables(slices.Concat(numbered(30), numbered(30)[7:8])...)...)},
		{put("18 are put", api.ErrMany, tables(numbered(18)...)...), links("21 links", api.ErrMany, make([]api.Link, 21)...)},
		{put("no name is put", api.ErrForm, named("")), put("what is put is no name", api.ErrForm, named("9")), put("what is put is too far", api.ErrRange, api.Named{Name: "A1", Table: api.Table{First: far}}), put("what is put has no name of its time", api.ErrForm, api.Named{Name: "A1"}), put("what is put is what it is", api.ErrState, named("A1", to(1, a)))},
		{links("a link without a name", api.ErrForm, link("B", "")), links("links that do not rise", api.ErrState, link("B", "E"), link("B", "C")), links("one link twice", api.ErrState, link("B", "C"), link("B", "C")), links("a link of a table's name", api.ErrTwice, link("B", "D")), links("a link to none", api.ErrNone, link("Z", "C"))},
	}
}

func numbered(n int) []string {
	var l []string
	for i := range n {
		l = append(l, "N"+strconv.Itoa(100+i))
	}
	return l
}

func checkNoRelease(t *testing.T, what string, r api.Release, u api.Update, want api.Errno) {
	t.Helper()
	if got, e := release.Apply(r, u); !same(got, api.Release{}) || e != want {
		t.Errorf("%s: Apply = %v, %d; want %d", what, got, e, want)
	}
}

// K2, P1: each error of Apply, and which one comes where several apply.
func TestApplyErrors(t *testing.T) {
	all := steps()
	for i, list := range all {
		for _, s := range list {
			var u api.Update
			s.do(&u)
			checkNoRelease(t, s.name, right(), u, s.want)
			for _, later := range all[i+1:] {
				for _, l := range later {
					both := api.Update{}
					l.do(&both)
					s.do(&both)
					checkNoRelease(t, s.name+", and "+l.name, right(), both, s.want)
				}
			}
		}
	}
}

// K2: what goes can be neither patched nor put as if it were there, and no link be to it.
func TestApplyOneByOne(t *testing.T) {
	gone := []string{"B"}
	for _, x := range []struct {
		name string
		u    api.Update
		want api.Errno
	}{
		{"patched", api.Update{Drop: gone, Patch: []api.NamedPatch{patch("B", api.Patch{First: a, Head: 1})}}, api.ErrNone},
		{"patched, and comes", api.Update{Drop: gone, Patch: []api.NamedPatch{patch("B", api.Patch{First: a, Head: 1})}, Put: tables("B")}, api.ErrNone},
		{"put, then patched", api.Update{Patch: []api.NamedPatch{patch("Z", api.Patch{First: a})}, Put: tables("Z")}, api.ErrNone},
		{"put, then dropped", api.Update{Drop: []string{"Z"}, Put: tables("Z")}, api.ErrNone},
		{"a link to it", api.Update{Drop: gone, Links: []api.Link{link("B", "A")}}, api.ErrNone},
		{"comes, and is called as a link", api.Update{Put: tables("A"), Links: []api.Link{link("D", "A")}}, api.ErrTwice},
		{"comes twice", api.Update{Drop: gone, Put: tables("B", "B")}, api.ErrTwice},
		{"the first patch tells", api.Update{Patch: []api.NamedPatch{patch("D", api.Patch{}), patch("Z", api.Patch{}), patch("B", api.Patch{Head: -1})}}, api.ErrForm},
		{"the table ahead tells", api.Update{Put: []api.Named{{Name: "Y", Table: api.Table{First: far}}, {Name: "A"}}}, api.ErrForm},
		{"the table ahead tells, the other way", api.Update{Put: []api.Named{{Name: "Y"}, {Name: "A", Table: api.Table{First: far}}}}, api.ErrRange},
	} {
		checkNoRelease(t, x.name, right(), x.u, x.want)
	}
}

// drawRelease of few names and times, so that there is much that is the same.
func drawRelease(r *rand.Rand) api.Release {
	var x api.Release
	locals := []api.Local{a, b, c}
	for _, name := range []string{"A", "AA", "B", "a", "b/c"} {
		if r.Intn(3) == 0 {
			continue
		}
		t := api.Table{First: locals[r.Intn(3)]}
		last := t.First
		for at := range 5 {
			if l := locals[r.Intn(3)]; l != last && r.Intn(3) > 0 {
				t.Changes = append(t.Changes, to(at, l))
				last = l
			}
		}
		x.Tables = append(x.Tables, api.Named{Name: name, Table: t})
	}
	for _, name := range []string{"L", "M", "m"} {
		if len(x.Tables) > 0 && r.Intn(2) == 0 {
			x.Links = append(x.Links, link(x.Tables[r.Intn(len(x.Tables))].Name, name))
		}
	}
	return x
}

func tableOf(r api.Release, name string) (api.Table, bool) {
	i := slices.IndexFunc(r.Tables, func(n api.Named) bool { return n.Name == name })
	if i < 0 {
		return api.Table{}, false
	}
	return r.Tables[i].Table, true
}

// slowDiff: name by name, whichever release has it.
func slowDiff(r, s api.Release) api.Update {
	u := api.Update{Links: s.Links}
	names := append(namesOf(r), namesOf(s)...)
	slices.Sort(names)
	for _, name := range slices.Compact(names) {
		old, isOld := tableOf(r, name)
		next, isNext := tableOf(s, name)
		switch {
		case !isNext:
			u.Drop = append(u.Drop, name)
		case !isOld:
			u.Put = append(u.Put, api.Named{Name: name, Table: next})
		case !sameTable(old, next):
			p, _ := delta.Diff(old, next)
			u.Patch = append(u.Patch, patch(name, p))
		}
	}
	return u
}

// K2, K3: what is applied leads from one release to the other, whatever they are; and of two that are the same there is nothing but links.
func TestAnyReleases(t *testing.T) {
	r := rand.New(rand.NewSource(19))
	for range 5000 {
		x, y := drawRelease(r), drawRelease(r)
		checkDiff(t, "any", x, y, slowDiff(x, y))
		u, _ := release.Diff(x, x)
		if !sameUpdate(u, api.Update{Links: x.Links}) {
			t.Errorf("from %v to itself: %v", x, u)
		}
		if t.Failed() {
			return
		}
	}
}

// K2, P1: any update of any release either leads to a release of which nothing is wrong, or to an error and nothing else.
func TestAnyUpdate(t *testing.T) {
	r := rand.New(rand.NewSource(20))
	seen := map[api.Errno]int{}
	for range 20000 {
		x, y, z := drawRelease(r), drawRelease(r), drawRelease(r)
		u, _ := release.Diff(y, z)
		got, e := release.Apply(x, u)
		seen[e]++
		if e == api.OK && release.Check(got) != api.OK || e != api.OK && !same(got, api.Release{}) {
			t.Fatalf("Apply(%v, %v) = %v, %d", x, u, got, e)
		}
	}
	for _, e := range []api.Errno{api.OK, api.ErrRange, api.ErrState, api.ErrNone, api.ErrTwice} {
		if seen[e] == 0 {
			t.Errorf("%d was never seen", e)
		}
	}
}

// K3: from the release of a text to that of a newer one; as far as the years are the same, nothing is put.
func TestNewerText(t *testing.T) {
	older := made(t, example)
	newer := made(t, strings.Replace(example, "1996 max", "1996 2030", 1)+"Link Here/Town Elder\nZone Etc/UTC 0 - UTC\n")
	checkDiff(t, "newer", older, newer, api.Update{
		Put:   []api.Named{{Name: "Etc/UTC", Table: api.Table{First: api.Local{Name: "UTC"}}}},
		Patch: []api.NamedPatch{patch("Here/Town", api.Patch{First: api.Local{Shift: 600, Name: "LMT"}, Head: 72})},
		Links: []api.Link{link("Here/Town", "Elder"), link("Here/Town", "Old")},
	})
	back, _ := release.Diff(newer, older)
	if len(back.Patch) != 1 || back.Patch[0].Patch.Head != 72 || len(back.Patch[0].Patch.Put) != 139 || !slices.Equal(back.Drop, []string{"Etc/UTC"}) {
		t.Errorf("back: %v", back)
	}
	checkApply(t, "back", newer, back, older)
}

// P4: updates of far more than there may be have their answers all the same.
func TestGreatUpdates(t *testing.T) {
	const many = 200000
	names := make([]string, many)
	for i := range names {
		names[i] = "N" + strconv.Itoa(many-i)
	}
	checkNoRelease(t, "many are put", right(), api.Update{Put: tables(names...)}, api.ErrMany)
	checkNoRelease(t, "many are put, one twice", right(), api.Update{Put: tables(append(names, names[77])...)}, api.ErrTwice)
	checkNoRelease(t, "many are dropped", right(), api.Update{Drop: names}, api.ErrNone)
	checkNoRelease(t, "many links", right(), api.Update{Links: make([]api.Link, many)}, api.ErrMany)
	var u api.Update
	for range many {
		u.Patch = append(u.Patch, patch("B", api.Patch{First: a, Head: 1}))
	}
	checkApply(t, "many patches", right(), u, only(right().Tables...))
	checkWrong(t, "many tables", only(tables(names...)...), api.ErrMany)
}

package release

import (
	"cmp"
	"slices"

	"dateline/api"
)

func nameOfZone(z api.Zone) string { return z.Name }

func nameOfLink(l api.Link) string { return l.Name }

func nameOfTable(n api.Named) string { return n.Name }

// rising by name: the same things, in a list of their own.
func rising[T any](things []T, nameOf func(thing T) string) []T {
	return slices.SortedFunc(slices.Values(things), func(a, b T) int { return cmp.Compare(nameOf(a), nameOf(b)) })
}

// find where the table of a name is, or belongs, among tables that rise by name.
func find(tables []api.Named, name string) (int, bool) {
	return slices.BinarySearchFunc(tables, name, func(n api.Named, name string) int { return cmp.Compare(n.Name, name) })
}

func has(tables []api.Named, name string) bool {
	_, ok := find(tables, name)
	return ok
}

func isSame(t, u api.Table) bool {
	return t.First == u.First && slices.Equal(t.Changes, u.Changes)
}

// copied, so that the caller's list is not that of an answer.
func copied(n api.Named) api.Named {
	return api.Named{Name: n.Name, Table: api.Table{First: n.Table.First, Changes: slices.Concat(n.Table.Changes)}}
}

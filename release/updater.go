package release

import (
	"slices"

	"dateline/api"
	"dateline/delta"
	"dateline/fault"
)

// updater of a release: the release as far as it is updated. Its tables rise by name, whatever they are called.
type updater struct{ api.Release }

// update all but the links, one by one.
func (up *updater) update(u api.Update) api.Errno {
	if errno := fault.First(u.Drop, up.drop); errno != api.OK {
		return errno
	}
	if errno := fault.First(u.Patch, up.patch); errno != api.OK {
		return errno
	}
	// In whatever order they come, the answer is the same; rising, not all that came ahead must make room for each.
	return fault.First(rising(u.Put, nameOfTable), up.put)
}

func (up *updater) drop(name string) api.Errno {
	i, ok := find(up.Tables, name)
	if !ok {
		return api.ErrNone
	}
	up.Tables = slices.Delete(up.Tables, i, i+1)
	return api.OK
}

func (up *updater) patch(p api.NamedPatch) api.Errno {
	i, ok := find(up.Tables, p.Name)
	if !ok {
		return api.ErrNone
	}
	t, errno := delta.Apply(up.Tables[i].Table, p.Patch)
	up.Tables[i].Table = t
	return errno
}

func (up *updater) put(n api.Named) api.Errno {
	i, ok := find(up.Tables, n.Name)
	if ok {
		return api.ErrTwice
	}
	up.Tables = slices.Insert(up.Tables, i, n)
	return api.OK
}

// copied, with lists of its own.
func (up *updater) copied() api.Release {
	r := api.Release{Links: slices.Concat(up.Links)}
	for _, n := range up.Tables {
		r.Tables = append(r.Tables, copied(n))
	}
	return r
}

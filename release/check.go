package release

import (
	"cmp"

	"dateline/api"
	"dateline/fault"
	"dateline/signs"
	"dateline/table"
)

func checkTables(tables []api.Named) api.Errno {
	// A name is not empty, so the first one stands behind this.
	ahead := ""
	return fault.First(tables, func(n api.Named) api.Errno {
		isBehind := n.Name > ahead
		ahead = n.Name
		return cmp.Or(
			fault.Unless(signs.IsName(n.Name), api.ErrForm),
			table.Check(n.Table),
			fault.Unless(isBehind, api.ErrState),
		)
	})
}

// checkLinks to tables of which nothing is wrong.
func checkLinks(r api.Release) api.Errno {
	ahead := ""
	return fault.First(r.Links, func(l api.Link) api.Errno {
		isBehind := l.Name > ahead
		ahead = l.Name
		return cmp.Or(
			fault.Unless(signs.IsName(l.Name), api.ErrForm),
			fault.Unless(isBehind, api.ErrState),
			fault.Unless(!has(r.Tables, l.Name), api.ErrTwice),
			fault.Unless(has(r.Tables, l.To), api.ErrNone),
		)
	})
}

package table

import (
	"dateline/api"
	"dateline/moment"
	"dateline/signs"
)

// farthest that clocks may be apart from universal time.
const farthest = api.MaxShift + api.MaxSave

// checkChange behind the one ahead of it.
func checkChange(ahead, c api.Change) api.Errno {
	if !moment.IsInYears(c.At) {
		return api.ErrRange
	}
	if c.At <= ahead.At {
		return api.ErrState
	}
	if errno := checkLocal(c.Local); errno != api.OK {
		return errno
	}
	if c.Local == ahead.Local {
		return api.ErrState
	}
	return api.OK
}

func checkLocal(l api.Local) api.Errno {
	if l.Shift < -farthest || l.Shift > farthest || l.Save < 0 || l.Save > api.MaxSave {
		return api.ErrRange
	}
	if !isNameOfTime(l.Name) {
		return api.ErrForm
	}
	return api.OK
}

func isNameOfTime(s string) bool { return s != "" && signs.IsPlain(s) }

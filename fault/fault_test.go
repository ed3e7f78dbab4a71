package fault_test

import (
	"testing"

	"dateline/api"
	"dateline/fault"
)

// Ways: what is wrong is an error by which a line gives up, and Attempt asserts it.
func TestAttempt(t *testing.T) {
	for _, c := range []struct {
		name   string
		work   func()
		number int
		errno  api.Errno
	}{
		{"nothing is wrong", func() {}, 0, api.OK},
		{"something holds", func() { fault.Require(true, 3, api.ErrForm) }, 0, api.OK},
		{"something is wrong", func() { fault.Require(false, 3, api.ErrForm) }, 3, api.ErrForm},
		{"something else", func() { panic("else") }, 0, api.ErrState},
	} {
		if n, e := fault.Attempt(c.work); n != c.number || e != c.errno {
			t.Errorf("%s: %d, %d; want %d, %d", c.name, n, e, c.number, c.errno)
		}
	}
}

func TestFaultIsAnError(t *testing.T) {
	var err error = fault.Fault{Number: 7, Errno: api.ErrMany}
	if err.Error() != "line 7: error 2" {
		t.Errorf("it tells %q", err.Error())
	}
}

package fault_test

import (
	"testing"

	"dateline/api"
	"dateline/fault"
)

// Ways: what is wrong is an error by which a line gives up, and Attempt asserts it.
func TestAttempt(t *testing.T) {
	for _, c := range []struct {
		name   string
		work   func()
		number int
		errno  api.Errno
	}{
		{"nothing is wrong", func() {}, 0, api.OK},
		{"something holds", func() { fault.Require(true, 3, api.ErrForm) }, 0, api.OK},
		{"something is wrong", func() { fault.Require(false, 3, api.ErrForm) }, 3, api.ErrForm},
		{"something else", func() { panic("else") }, 0, api.ErrState},
	} {
		if n, e := fault.Attempt(c.work); n != c.number || e != c.errno {
			t.Errorf("%s: %d, %d; want %d, %d", c.name, n, e, c.number, c.errno)
		}
	}
}

func TestFaultIsAnError(t *testing.T) {
	var err error = fault.Fault{Number: 7, Errno: api.ErrMany}
	if err.Error() != "line 7: error 2" {
		t.Errorf("it tells %q", err.Error())
	}
}

func TestUnless(t *testing.T) {
	if e := fault.Unless(true, api.ErrKind); e != api.OK {
		t.Errorf("what holds: %d", e)
	}
	if e := fault.Unless(false, api.ErrKind); e != api.ErrKind {
		t.Errorf("what does not hold: %d", e)
	}
}

// Ways: of some things the first one that is wrong tells, and those behind it are not tried.
func TestFirst(t *testing.T) {
	for _, c := range []struct {
		things []api.Errno
		want   api.Errno
		tried  int
	}{
		{nil, api.OK, 0},
		{[]api.Errno{api.OK, api.OK}, api.OK, 2},
		{[]api.Errno{api.ErrForm}, api.ErrForm, 1},
		{[]api.Errno{api.OK, api.ErrTwice, api.ErrForm, api.OK}, api.ErrTwice, 2},
	} {
		tried := 0
		e := fault.First(c.things, func(e api.Errno) api.Errno { tried++; return e })
		if e != c.want || tried != c.tried {
			t.Errorf("First(%v) = %d, %d were tried; want %d, %d", c.things, e, tried, c.want, c.tried)
		}
	}
}

package line

import (
	"testing"

	"dateline/api"
)

// Ways: what is wrong is an error by which a line gives up, and attempt asserts it.
func TestAttempt(t *testing.T) {
	for _, c := range []struct {
		name   string
		work   func()
		number int
		errno  api.Errno
	}{
		{"nothing is wrong", func() {}, 0, api.OK},
		{"something holds", func() { require(true, 3, api.ErrForm) }, 0, api.OK},
		{"something is wrong", func() { require(false, 3, api.ErrForm) }, 3, api.ErrForm},
		{"something else", func() { panic("else") }, 0, api.ErrState},
	} {
		if n, e := attempt(c.work); n != c.number || e != c.errno {
			t.Errorf("%s: %d, %d; want %d, %d", c.name, n, e, c.number, c.errno)
		}
	}
}

func TestFaultIsAnError(t *testing.T) {
	var err error = fault{number: 7, errno: api.ErrMany}
	if err.Error() != "line 7: error 2" {
		t.Errorf("it tells %q", err.Error())
	}
}

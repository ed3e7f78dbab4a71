// Package fault: giving up where something is wrong, from however far inside.
package fault

import (
	"strconv"

	"dateline/api"
)

// Fault is what is wrong, and in which line (0: in the whole text).
type Fault struct {
	Number int
	Errno  api.Errno
}

// Error makes a fault an error.
func (f Fault) Error() string {
	return "line " + strconv.Itoa(f.Number) + ": error " + strconv.Itoa(int(f.Errno))
}

// Require gives up with a fault, if something does not hold.
func Require(holds bool, number int, errno api.Errno) {
	if !holds {
		panic(Fault{Number: number, Errno: errno})
	}
}

// Attempt some work, and tell the fault with which it gave up, if it did.
func Attempt(work func()) (number int, errno api.Errno) {
	// It stands only if work gave up otherwise than by a fault: never is that told as OK.
	errno = api.ErrState
	defer func() {
		if f, ok := recover().(Fault); ok {
			number, errno = f.Number, f.Errno
		}
	}()
	work()
	return 0, api.OK
}

// Unless something holds, an error.
func Unless(holds bool, errno api.Errno) api.Errno {
	if holds {
		return api.OK
	}
	return errno
}

// First of some things with which something is wrong: what it is. Those behind it are not tried.
func First[T any](things []T, try func(thing T) api.Errno) api.Errno {
	for _, each := range things {
		if errno := try(each); errno != api.OK {
			return errno
		}
	}
	return api.OK
}

package line

import (
	"strconv"

	"dateline/api"
)

// fault is what is wrong, and in which line (0: in the whole text).
type fault struct {
	number int
	errno  api.Errno
}

// Error makes a fault an error.
func (f fault) Error() string {
	return "line " + strconv.Itoa(f.number) + ": error " + strconv.Itoa(int(f.errno))
}

// require gives up with a fault, if something does not hold.
func require(holds bool, number int, errno api.Errno) {
	if !holds {
		panic(fault{number: number, errno: errno})
	}
}

// attempt some work, and tell the fault with which it gave up, if it did.
func attempt(work func()) (number int, errno api.Errno) {
	// It stands only if work gave up otherwise than by a fault: never is that told as OK.
	errno = api.ErrState
	defer func() {
		if f, ok := recover().(fault); ok {
			number, errno = f.number, f.errno
		}
	}()
	work()
	return 0, api.OK
}

// Package seek: looking for something in what is gone through.
package seek

import "iter"

// First of all that is what is looked for; false, if none is.
func First[T any](all iter.Seq[T], isIt func(each T) bool) (T, bool) {
	for each := range all {
		if isIt(each) {
			return each, true
		}
	}
	var none T
	return none, false
}

// Last of all that is what is looked for; false, if none is.
func Last[T any](all iter.Seq[T], isIt func(each T) bool) (T, bool) {
	var last T
	found := false
	for each := range all {
		if isIt(each) {
			last, found = each, true
		}
	}
	return last, found
}

// Has tells whether any of all is what is looked for.
func Has[T any](all iter.Seq[T], isIt func(each T) bool) bool {
	_, found := First(all, isIt)
	return found
}

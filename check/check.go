// Package check contains what the layers share for checking their arguments.
package check

import (
	"strconv"

	"bitepoint/api"
)

// FirstError returns the index and the error of the first element of a list
// that has one.
func FirstError[T any](list []T, errorOf func(at int, element T) api.Errno) (int, api.Errno) {
	for at, element := range list {
		if e := errorOf(at, element); e != api.OK {
			return at, e
		}
	}
	return 0, api.OK
}

// Within reports whether all numbers are from lo to hi.
func Within(lo, hi int, numbers ...int) bool {
	for _, n := range numbers {
		if n < lo || n > hi {
			return false
		}
	}
	return true
}

// Need panics with an error if what something needs does not hold: it is left
// by it from anywhere, and whoever calls it recovers.
func Need(holds bool, e api.Errno) {
	if !holds {
		panic(e)
	}
}

// Demand does as Need, with ErrForm, for readers: it panics if what the form of
// a text needs does not hold.
func Demand(holds bool) { Need(holds, api.ErrForm) }

// Number returns the number with a decimal form, for readers: it panics if
// there is none.
func Number(digits string) int {
	n, err := strconv.Atoi(digits)
	Demand(err == nil && strconv.Itoa(n) == digits)
	return n
}

// Package names contains what the layers share for checking lists whose
// elements have names.
package names

import (
	"slices"

	"bitepoint/api"
	"bitepoint/check"
	"bitepoint/class"
)

// Error returns the error of the name of an element of a list: ErrForm if it
// is none, ErrTwice if an element before it has the same.
func Error[T any](list []T, at int, nameOf func(element T) string) api.Errno {
	name := nameOf(list[at])
	if !class.Name(name) {
		return api.ErrForm
	}
	if slices.ContainsFunc(list[:at], func(other T) bool { return nameOf(other) == name }) {
		return api.ErrTwice
	}
	return api.OK
}

// FirstError returns the index and the error of the first one of a list of
// names that has one.
func FirstError(list []string) (int, api.Errno) {
	itself := func(name string) string { return name }
	return check.FirstError(list, func(at int, _ string) api.Errno { return Error(list, at, itself) })
}

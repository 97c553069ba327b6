package sheet

import (
	"iter"
	"slices"

	"bitepoint/api"
	"bitepoint/check"
)

// numbers returns the numbers of so many lines.
func numbers(lines int) []int {
	all := make([]int, lines)
	for at := range all {
		all[at] = at + 1
	}
	return all
}

// numbersError returns the error of a list of lines that have to be among
// some others, and to ascend.
func numbersError(list, among []int) api.Errno {
	_, e := check.FirstError(list, func(at, no int) api.Errno {
		switch {
		case !slices.Contains(among, no):
			return api.ErrNone
		case at > 0 && no <= list[at-1]:
			return api.ErrArg
		}
		return api.OK
	})
	return e
}

// lists yields all lists of some lines: those with fewer lines first, and of
// those with as many the one with the lower number first.
func lists(lines []int) iter.Seq[[]int] {
	return func(yield func(list []int) bool) {
		var try func(list, rest []int, more int) bool
		try = func(list, rest []int, more int) bool {
			if more == 0 {
				return yield(slices.Clone(list))
			}
			for at, no := range rest {
				if !try(append(list, no), rest[at+1:], more-1) {
					return false
				}
			}
			return true
		}
		for many := range len(lines) + 1 {
			if !try(nil, lines, many) {
				return
			}
		}
	}
}

// first returns the first one of all that is yielded for which something
// holds, and whether there is one.
func first[T any](yielded iter.Seq[T], holds func(one T) bool) (T, bool) {
	for one := range yielded {
		if holds(one) {
			return one, true
		}
	}
	var none T
	return none, false
}

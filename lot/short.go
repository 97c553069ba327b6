package lot

import (
	"cmp"
	"iter"
	"slices"

	"bitepoint/sets"
)

// short returns the fewest tests that are short of examiners. By the theorem of
// Hall there are such tests just if there is no allowed assignment, so it need
// not be asked for.
func (v view) short() []int { return firstShort(v.lists, v.timesFor) }

// lists yields all lists of tests, each ascending, but for the empty one.
func (v view) lists(yield func(tests []int) bool) {
	for set := 1; set < 1<<len(v.Knows); set++ {
		if !yield(sets.Indices(set)) {
			return
		}
	}
}

// timesFor yields the Times of each examiner who does not know all learners of
// some tests.
func (v view) timesFor(tests []int) iter.Seq[int] {
	known := v.Knows[tests[0]]
	for _, test := range tests {
		known &= v.Knows[test]
	}
	return func(yield func(times int) bool) {
		for examiner, times := range v.Times {
			if !sets.Has(known, examiner) && !yield(times) {
				return
			}
		}
	}
}

// firstShort returns the first list for which there are fewer times, together,
// than it has elements, or nothing. Shorter lists are tried first, and those of
// one length element by element.
func firstShort[T cmp.Ordered](lists iter.Seq[[]T], timesFor func(list []T) iter.Seq[int]) []T {
	ordered := slices.SortedFunc(lists, func(a, b []T) int {
		return cmp.Or(cmp.Compare(len(a), len(b)), slices.Compare(a, b))
	})
tries:
	for _, list := range ordered {
		together := 0
		for times := range timesFor(list) {
			together += times
			if together >= len(list) {
				continue tries
			}
		}
		return list
	}
	return nil
}

package sheet

import (
	"iter"
	"slices"
	"strconv"
	"strings"

	"bitepoint/api"
	"bitepoint/check"
)

// view is a sheet that is looked at, and its code.
type view struct {
	code
	api.ShSheet
}

// open returns the view of a sheet, and the error of its code and of itself.
func open(c api.ShCode, s api.ShSheet) (view, api.Errno) {
	k, e := openCode(c)
	if e != api.OK {
		return view{}, e
	}
	if e := k.sheetError(s); e != api.OK {
		return view{}, e
	}
	return view{code: k, ShSheet: s}, api.OK
}

// openFitting does as open, and returns ErrDown if no test fits the sheet.
func openFitting(c api.ShCode, s api.ShSheet) (view, api.Errno) {
	v, e := open(c, s)
	if e != api.OK {
		return view{}, e
	}
	for range v.fitting() {
		return v, api.OK
	}
	return view{}, api.ErrDown
}

// sheetError returns the error of a sheet.
func (k code) sheetError(s api.ShSheet) api.Errno {
	if !check.Within(1, api.MaxShLines, s.Lines) {
		return api.ErrRange
	}
	if _, e := check.FirstError(s.Kept, k.lineErrors(s)); e != api.OK {
		return e
	}
	if s.Lines-len(s.Kept) > api.MaxShLost {
		return api.ErrLong
	}
	return api.OK
}

// lineErrors returns what tells the error of a line of a sheet that was kept.
func (k code) lineErrors(s api.ShSheet) func(at int, line api.ShLine) api.Errno {
	return func(at int, line api.ShLine) api.Errno {
		switch {
		case !check.Within(1, s.Lines, line.No):
			return api.ErrRange
		case at > 0 && line.No <= s.Kept[at-1].No:
			return api.ErrArg
		case !k.areThings(line.What):
			return api.ErrNone
		case !check.Within(0, api.MaxShAll, line.Sum):
			return api.ErrRange
		}
		return api.OK
	}
}

// lost returns the numbers of the lines that are lost.
func (v view) lost() []int {
	return slices.DeleteFunc(numbers(v.Lines), func(no int) bool {
		return slices.ContainsFunc(v.Kept, func(line api.ShLine) bool { return line.No == no })
	})
}

// filled yields all whole tests with what was written on the lines that were
// kept, whatever their points are. Of two of them the one with the lower number
// on the first line that differs comes first.
func (v view) filled() iter.Seq[[]int] {
	return func(yield func(test []int) bool) {
		test := make([]int, v.Lines)
		for _, line := range v.Kept {
			test[line.No-1] = line.What
		}
		var fill func(lost []int) bool
		fill = func(lost []int) bool {
			if len(lost) == 0 {
				return yield(slices.Clone(test))
			}
			for what := range v.things {
				test[lost[0]-1] = what
				if !fill(lost[1:]) {
					return false
				}
			}
			return true
		}
		fill(v.lost())
	}
}

// fitting yields all whole tests that fit, in the order of filled.
func (v view) fitting() iter.Seq[[]int] {
	return func(yield func(test []int) bool) {
	tests:
		for test := range v.filled() {
			sums := v.sums(test)
			for _, line := range v.Kept {
				if sums[line.No-1] != line.Sum {
					continue tests
				}
			}
			if !yield(test) {
				return
			}
		}
	}
}

// show returns the first test that fits, and is passed, or not; and whether
// there is one.
func (v view) show(passed bool) (test []int, found bool) {
	return first(v.fitting(), func(test []int) bool { return v.passes(tallied(test)) == passed })
}

// outcome returns the outcome of a sheet that some test fits.
func (v view) outcome() int {
	if _, found := v.show(false); !found {
		return api.AnPasses
	}
	if _, found := v.show(true); !found {
		return api.AnFails
	}
	return api.AnDepends
}

// enough reports whether some lost lines are enough: whether no test that fits
// is passed and another one with the same on these lines is not.
func (v view) enough(lines []int) bool {
	passed := map[string]bool{}
	_, differs := first(v.fitting(), func(test []int) bool {
		same, now := written(test, lines), v.passes(tallied(test))
		before, known := passed[same]
		passed[same] = now
		return known && before != now
	})
	return !differs
}

// written returns what is written on some lines of a whole test, as a text.
func written(test, lines []int) string {
	var text strings.Builder
	for _, no := range lines {
		text.WriteString(strconv.Itoa(test[no-1]) + " ")
	}
	return text.String()
}

package sheet

import (
	"slices"

	"bitepoint/api"
	"bitepoint/check"
)

// code is a code that is looked at, and the names of all that can be written.
type code struct {
	api.ShCode
	things []string
}

// tally is how often each thing is written on a test.
type tally [api.MaxShFaults + api.MaxShManoeuvres]int

// add adds a line with what is written on it.
func (t *tally) add(what int) { t[what]++ }

// tallied returns the tally of a whole test of which some lines are struck.
func tallied(test []int, struck ...int) tally {
	var t tally
	eachLeft(test, struck, t.add)
	return t
}

// eachLeft hands over what is written on each line that is not struck.
func eachLeft(test, struck []int, hand func(what int)) {
	for at, what := range test {
		if !slices.Contains(struck, at+1) {
			hand(what)
		}
	}
}

// openCode returns the code that is looked at, and the first error: that of
// the code, then that of each whole test.
func openCode(c api.ShCode, tests ...[]int) (code, api.Errno) {
	if _, _, e := Check(c); e != api.OK {
		return code{}, e
	}
	k := code{ShCode: c, things: things(c)}
	for _, test := range tests {
		if e := k.testError(test); e != api.OK {
			return code{}, e
		}
	}
	return k, api.OK
}

// testError returns the error of a whole test.
func (k code) testError(test []int) api.Errno {
	switch {
	case !check.Within(1, api.MaxShLines, len(test)):
		return api.ErrLong
	case !k.areThings(test...):
		return api.ErrNone
	}
	return api.OK
}

// areThings reports whether all numbers are those of what can be written.
func (k code) areThings(written ...int) bool {
	return check.Within(0, len(k.things)-1, written...)
}

// points returns the points of a test with a tally.
func (k code) points(t tally) int {
	points := 0
	for fault, f := range k.Faults {
		points += t[fault] * f.Points
	}
	return points
}

// passes reports whether a test with a tally is passed.
func (k code) passes(t tally) bool {
	for fault, f := range k.Faults {
		if t[fault] > f.Limit {
			return false
		}
	}
	for manoeuvre := range k.Manoeuvres {
		if t[len(k.Faults)+manoeuvre] == 0 {
			return false
		}
	}
	return k.points(t) <= k.All
}

// sums returns, for each line of a whole test, the points of all lines up to
// this one.
func (k code) sums(test []int) []int {
	var sums []int
	var t tally
	for _, what := range test {
		t.add(what)
		sums = append(sums, k.points(t))
	}
	return sums
}

// kept returns the sheet that is left of a whole test.
func (k code) kept(test, lost []int) api.ShSheet {
	s := api.ShSheet{Lines: len(test)}
	sums := k.sums(test)
	for at, what := range test {
		if !slices.Contains(lost, at+1) {
			s.Kept = append(s.Kept, api.ShLine{No: at + 1, What: what, Sum: sums[at]})
		}
	}
	return s
}

// appeal returns the fewest lines of a whole test that have to be struck, so
// that it is passed, and whether there are any.
func (k code) appeal(test []int) (lines []int, found bool) {
	var faults []int
	for at, what := range test {
		if what < len(k.Faults) {
			faults = append(faults, at+1)
		}
	}
	return first(lists(faults), func(struck []int) bool { return k.passes(tallied(test, struck...)) })
}

package sheet_test

import (
	"math"
	"slices"
	"testing"

	"bitepoint/api"
	"bitepoint/sheet"
)

// sheetErrors are sheets of the example with an error.
var sheetErrors = []struct {
	s api.ShSheet
	e api.Errno
}{
	// How many lines were written.
	{api.ShSheet{}, api.ErrRange},
	{sheetOf(-1), api.ErrRange}, {sheetOf(math.MinInt), api.ErrRange}, {sheetOf(math.MaxInt), api.ErrRange},
	{sheetOf(13, line(1, signal, 1)), api.ErrRange}, {sheetOf(0, line(0, 9, -1)), api.ErrRange},
	// The number of a line.
	{sheetOf(4, line(0, signal, 1)), api.ErrRange}, {sheetOf(4, line(5, signal, 1)), api.ErrRange},
	{sheetOf(4, line(-1, 9, 1)), api.ErrRange}, {sheetOf(4, line(math.MaxInt, signal, 1)), api.ErrRange},
	{sheetOf(4, line(2, signal, 1), line(0, signal, 1)), api.ErrRange}, {sheetOf(4, line(2, signal, 1), line(math.MinInt, signal, 1)), api.ErrRange},
	{sheetOf(4, line(4, signal, 1), line(5, signal, 1)), api.ErrRange},
	// Its order.
	{sheetOf(4, line(2, signal, 1), line(2, signal, 1)), api.ErrArg}, {sheetOf(4, line(2, signal, 1), line(1, 9, 241)), api.ErrArg},
	{sheetOf(4, line(1, signal, 1), line(4, signal, 2), line(3, signal, 3)), api.ErrArg},
	{sheetOf(2, slices.Repeat([]api.ShLine{line(1, signal, 1)}, 1000)...), api.ErrArg},
	{sheetOf(4, line(1, signal, 1), line(1, signal, 1), line(0, signal, 1)), api.ErrArg},
	// What was written.
	{sheetOf(4, line(1, 4, 1)), api.ErrNone}, {sheetOf(4, line(1, -1, -1)), api.ErrNone}, {sheetOf(4, line(1, 4, 241), line(1, 0, 1)), api.ErrNone},
	{sheetOf(4, line(1, signal, 1), line(2, math.MaxInt, 1)), api.ErrNone}, {sheetOf(4, line(1, signal, 1), line(2, math.MinInt, 1)), api.ErrNone},
	// Its sum.
	{sheetOf(4, line(1, signal, -1)), api.ErrRange}, {sheetOf(4, line(1, signal, 241)), api.ErrRange},
	{sheetOf(4, line(1, signal, math.MinInt)), api.ErrRange}, {sheetOf(4, line(1, signal, math.MaxInt), line(1, 9, 0)), api.ErrRange},
	{sheetOf(12, line(1, signal, 241)), api.ErrRange},
	// How many lines are lost.
	{sheetOf(4), api.ErrLong}, {sheetOf(5, line(5, park, 0)), api.ErrLong}, {sheetOf(12), api.ErrLong},
	{sheetOf(12, line(1, park, 0), line(2, park, 0), line(4, park, 0), line(5, park, 0), line(7, park, 0), line(8, park, 0), line(10, park, 0), line(11, park, 0)), api.ErrLong},
}

// TestErrorsOfSheets checks the error of a sheet in all functions that have
// one.
func TestErrorsOfSheets(t *testing.T) {
	for _, one := range sheetErrors {
		a := arguments{c: example(), test: []int{park}, s: one.s, lines: []int{0, 0}, text: "1\n"}
		for f, is := range a.results() {
			want := one.e
			if slices.Contains([]int{judgeIs, keepIs, appealIs, readIs}, f) {
				want = api.OK
			}
			if is.e != want {
				t.Errorf("%v: the function %d returns %d, not %d", one.s, f, is.e, want)
			}
		}
	}
}

// lostCase is a sheet, how many tests fit it, its outcome, the tests that are
// shown, and the fewest lines.
type lostCase struct {
	c              api.ShCode
	s              api.ShSheet
	fits, outcome  int
	passed, failed []int
	fewest         []int
}

// lostCases are sheets that some test fits.
var lostCases = []lostCase{
	// The document's example.
	{example(), left(), 4, api.AnDepends, []int{signal, speed, park, signal}, []int{signal, speed, park, speed}, []int{4}},
	// Nothing is lost.
	{example(), sheetOf(1, line(1, park, 0)), 1, api.AnPasses, []int{park}, nil, nil},
	{example(), sheetOf(1, line(1, redlight, 5)), 1, api.AnFails, nil, []int{redlight}, nil},
	{example(), sheetOf(4, line(1, signal, 1), line(2, speed, 3), line(3, park, 3), line(4, signal, 4)), 1, api.AnPasses, []int{signal, speed, park, signal}, nil, nil},
	// All is lost.
	{example(), sheetOf(1), 4, api.AnDepends, []int{park}, []int{signal}, []int{1}},
	{example(), sheetOf(2), 16, api.AnDepends, []int{signal, park}, []int{signal, signal}, []int{1, 2}},
	{example(), sheetOf(3), 64, api.AnDepends, []int{signal, signal, park}, []int{signal, signal, signal}, []int{1, 2, 3}},
	// The sums tell the points of what is lost, but not what it was.
	{example(), sheetOf(3, line(1, park, 0), line(3, park, 1)), 1, api.AnPasses, []int{park, signal, park}, nil, nil},
	{example(), sheetOf(3, line(1, park, 0), line(3, speed, 7)), 1, api.AnFails, nil, []int{park, redlight, speed}, nil},
	{example(), sheetOf(3, line(1, park, 0), line(3, signal, 1)), 1, api.AnPasses, []int{park, park, signal}, nil, nil},
	{example(), sheetOf(4, line(1, park, 0), line(4, park, 3)), 2, api.AnPasses, []int{park, signal, speed, park}, nil, nil},
	{example(), sheetOf(4, line(1, park, 0), line(4, park, 2)), 3, api.AnPasses, []int{park, signal, signal, park}, nil, nil},
	{example(), sheetOf(4, line(1, park, 0), line(4, signal, 5)), 1, api.AnFails, nil, []int{park, speed, speed, signal}, nil},
	{example(), sheetOf(4, line(1, signal, 1), line(4, signal, 2)), 1, api.AnPasses, []int{signal, park, park, signal}, nil, nil},
	{example(), sheetOf(4, line(1, signal, 1), line(4, signal, 4)), 3, api.AnDepends, []int{signal, speed, park, signal}, []int{signal, signal, signal, signal}, []int{2}},
	{example(), sheetOf(5, line(2, park, 0), line(4, park, 5)), 4, api.AnFails, nil, []int{park, park, redlight, park, signal}, nil},
	// The points alone, the limits alone and the manoeuvres alone decide.
	{changed(func(c *api.ShCode) { c.Faults[1].Limit, c.Faults[2].Limit = 12, 12 }), sheetOf(2, line(1, park, 0)), 4, api.AnDepends, []int{park, signal}, []int{park, redlight}, []int{2}},
	{changed(func(c *api.ShCode) { c.All = 240 }), sheetOf(2, line(1, park, 0)), 4, api.AnDepends, []int{park, signal}, []int{park, redlight}, []int{2}},
	{changed(func(c *api.ShCode) { c.All, c.Faults[2].Limit = 240, 1 }), sheetOf(2, line(1, signal, 1)), 4, api.AnDepends, []int{signal, park}, []int{signal, signal}, []int{2}},
	// Two faults with the same points, of which one has a greater limit.
	{changed(func(c *api.ShCode) { c.Faults[2].Points = 1 }), sheetOf(4, line(1, park, 0), line(4, park, 2)), 6, api.AnDepends, []int{park, signal, signal, park}, []int{park, signal, redlight, park}, []int{2, 3}},
	// The first lost line is enough, or the last one; or one of both, of which the first one is named.
	{changed(func(c *api.ShCode) { c.Faults = []api.ShFault{fault("a", 1, 1), fault("b", 3, 0)} }), sheetOf(3, line(2, 2, 1)), 3, api.AnDepends, []int{0, 2, 2}, []int{0, 2, 0}, []int{3}},
	{changed(func(c *api.ShCode) { c.Faults, c.Manoeuvres = []api.ShFault{fault("a", 1, 2), fault("b", 1, 0)}, nil }), sheetOf(2, line(2, 0, 2)), 2, api.AnDepends, []int{0, 0}, []int{1, 0}, []int{1}},
	{changed(func(c *api.ShCode) { c.Faults, c.Manoeuvres = []api.ShFault{fault("a", 0, 1), fault("b", 1, 1)}, nil }), sheetOf(3, line(3, 0, 1)), 2, api.AnFails, nil, []int{0, 1, 0}, nil},
	{changed(func(c *api.ShCode) {
		c.Faults, c.Manoeuvres = []api.ShFault{fault("a", 0, 2), fault("b", 1, 1), fault("c", 2, 2), fault("d", 3, 0)}, nil
	}), sheetOf(3, line(3, 0, 3)), 4, api.AnDepends, []int{1, 2, 0}, []int{0, 3, 0}, []int{1}},
	// Faults and manoeuvres without points.
	{least(), sheetOf(3), 1, api.AnFails, nil, []int{0, 0, 0}, nil},
	{changed(func(c *api.ShCode) { *c = least(); c.Manoeuvres = []string{"m"} }), sheetOf(3, line(2, 1, 0)), 4, api.AnDepends, []int{1, 1, 1}, []int{0, 1, 0}, []int{1, 3}},
	// As much as can be.
	{greatest(), sheetOf(3), 729, api.AnDepends, []int{6, 7, 8}, []int{0, 0, 0}, []int{1, 2, 3}},
	{greatest(), sheetOf(12, line(1, 0, 20), line(3, 0, 60), line(4, 0, 80), line(5, 0, 100), line(7, 0, 140), line(8, 0, 160), line(9, 0, 180), line(11, 0, 220), line(12, 0, 240)), 216, api.AnFails, nil, slices.Repeat([]int{0}, 12), nil},
}

// TestFits checks P10.4: how many tests fit.
func TestFits(t *testing.T) {
	for _, one := range lostCases {
		if fits, e := sheet.Fits(one.c, one.s); fits != one.fits || e != api.OK {
			t.Errorf("Fits of %v and %v = %d, %d, not %d", one.c, one.s, fits, e, one.fits)
		}
	}
}

// TestOutcome checks P10.4: the outcome.
func TestOutcome(t *testing.T) {
	for _, one := range lostCases {
		if outcome, e := sheet.Outcome(one.c, one.s); outcome != one.outcome || e != api.OK {
			t.Errorf("Outcome of %v and %v = %d, %d, not %d", one.c, one.s, outcome, e, one.outcome)
		}
	}
}

// TestShow checks P10.5.
func TestShow(t *testing.T) {
	for _, one := range lostCases {
		for _, passed := range []bool{true, false} {
			want := one.failed
			if passed {
				want = one.passed
			}
			e := api.OK
			if want == nil {
				e = api.ErrNone
			}
			if test, is := sheet.Show(one.c, one.s, passed); !slices.Equal(test, want) || is != e {
				t.Errorf("Show of %v and %v, %t = %v, %d, not %v, %d", one.c, one.s, passed, test, is, want, e)
			}
		}
	}
}

// TestFewest checks P10.6: the fewest lines that are enough.
func TestFewest(t *testing.T) {
	for _, one := range lostCases {
		if lines, e := sheet.Fewest(one.c, one.s); !slices.Equal(lines, one.fewest) || e != api.OK {
			t.Errorf("Fewest of %v and %v = %v, %d, not %v", one.c, one.s, lines, e, one.fewest)
		}
	}
}

// unfit are sheets of the example that no test fits.
var unfit = []api.ShSheet{
	sheetOf(1, line(1, signal, 0)), sheetOf(1, line(1, signal, 2)), sheetOf(1, line(1, park, 1)), sheetOf(1, line(1, park, 240)),
	sheetOf(2, line(1, signal, 1), line(2, signal, 1)), sheetOf(2, line(1, signal, 1), line(2, park, 0)),
	sheetOf(2, line(2, signal, 0)), sheetOf(2, line(2, signal, 4)), sheetOf(2, line(2, park, 3)), sheetOf(2, line(2, park, 4)),
	sheetOf(3, line(1, signal, 1), line(3, signal, 1)), sheetOf(4, line(1, park, 0), line(4, park, 8)),
	sheetOf(3, line(1, signal, 2), line(3, speed, 3)), sheetOf(4, line(1, park, 240)),
}

// TestNothingFits checks P10.4, P10.5 and P10.6 for sheets that no test fits:
// ErrDown comes ahead of the errors of lines.
func TestNothingFits(t *testing.T) {
	for _, s := range unfit {
		a := arguments{c: example(), test: []int{park}, s: s, lines: []int{0, 0}, text: "1\n"}
		for f, is := range a.results() {
			want := api.ErrDown
			if slices.Contains([]int{judgeIs, keepIs, appealIs, readIs, fitsIs, writeIs}, f) {
				want = api.OK
			}
			if is.e != want {
				t.Errorf("%v: the function %d returns %d, not %d", s, f, is.e, want)
			}
		}
		if fits, e := sheet.Fits(example(), s); fits != 0 || e != api.OK {
			t.Errorf("Fits of %v = %d, %d", s, fits, e)
		}
	}
}

// enoughCases are lines of S, and of a sheet of three lines that are all lost.
var enoughCases = []struct {
	s     api.ShSheet
	lines []int
	is    bool
	e     api.Errno
}{
	// The document's examples.
	{left(), []int{2}, false, api.OK}, {left(), []int{4}, true, api.OK},
	{left(), nil, false, api.OK}, {left(), []int{}, false, api.OK}, {left(), []int{2, 4}, true, api.OK},
	{sheetOf(3), []int{1, 2}, false, api.OK}, {sheetOf(3), []int{1, 3}, false, api.OK}, {sheetOf(3), []int{2, 3}, false, api.OK}, {sheetOf(3), []int{1, 2, 3}, true, api.OK},
	{sheetOf(2), []int{1}, false, api.OK}, {sheetOf(2), []int{2}, false, api.OK},
	// Where the outcome does not depend, no line is needed.
	{sheetOf(1, line(1, park, 0)), nil, true, api.OK},
	{sheetOf(4, line(1, park, 0), line(4, park, 3)), nil, true, api.OK}, {sheetOf(4, line(1, park, 0), line(4, park, 3)), []int{3}, true, api.OK},
	// Lines that are not lost.
	{left(), []int{1}, false, api.ErrNone}, {left(), []int{0}, false, api.ErrNone}, {left(), []int{5}, false, api.ErrNone}, {left(), []int{2, 3, 4}, false, api.ErrNone},
	{left(), []int{4, 3}, false, api.ErrNone}, {left(), []int{-2}, false, api.ErrNone}, {left(), []int{2, math.MaxInt}, false, api.ErrNone}, {left(), []int{math.MinInt, 1}, false, api.ErrNone},
	{sheetOf(1, line(1, park, 0)), []int{1}, false, api.ErrNone},
	// Lines that are not above the one before.
	{left(), []int{2, 2}, false, api.ErrArg}, {left(), []int{4, 2}, false, api.ErrArg}, {left(), []int{2, 4, 2, 1}, false, api.ErrArg},
	{sheetOf(3), []int{1, 2, 3, 3}, false, api.ErrArg}, {sheetOf(3), slices.Repeat([]int{3}, 100000), false, api.ErrArg}, {sheetOf(3), []int{1, 2, 3, 4}, false, api.ErrNone},
}

// TestEnough checks P10.6: whether lines are enough.
func TestEnough(t *testing.T) {
	for _, one := range enoughCases {
		if is, e := sheet.Enough(example(), one.s, one.lines); is != one.is || e != one.e {
			t.Errorf("Enough of %v: %v = %t, %d, not %t, %d", one.s, one.lines, is, e, one.is, one.e)
		}
	}
}

// appealCases are codes and whole tests, and the lines to be struck.
var appealCases = []struct {
	c           api.ShCode
	test, lines []int
	e           api.Errno
}{
	// The document's examples.
	{example(), []int{signal, speed, park, redlight}, []int{4}, api.OK},
	{example(), []int{signal, speed, speed, park, signal}, []int{2}, api.OK},
	{example(), []int{signal, signal}, nil, api.ErrDown},
	// It is passed as it is.
	{example(), []int{signal, speed, park, signal}, nil, api.OK},
	{example(), []int{park}, nil, api.OK},
	// A manoeuvre was not done, or one of two.
	{example(), []int{redlight}, nil, api.ErrDown},
	{changed(func(c *api.ShCode) { c.Manoeuvres = []string{"park", "turn"} }), []int{3, 3, signal}, nil, api.ErrDown},
	{changed(func(c *api.ShCode) { c.Manoeuvres = []string{"park", "turn"} }), []int{4, 4, 4}, nil, api.ErrDown},
	{changed(func(c *api.ShCode) { c.Manoeuvres = []string{"park", "turn"} }), []int{4, redlight, 3, redlight}, []int{2, 4}, api.OK},
	// The limit of a fault: the first ones are struck.
	{example(), []int{signal, park, signal, signal, signal}, []int{1}, api.OK},
	{example(), []int{redlight, park, redlight, redlight}, []int{1, 3, 4}, api.OK},
	{changed(func(c *api.ShCode) { c.All = 240 }), []int{park, speed, speed, speed}, []int{2, 3}, api.OK},
	// The points: the fewest lines, not the fewest points.
	{changed(func(c *api.ShCode) { c.All, c.Faults[2].Limit = 5, 2 }), []int{signal, signal, park, redlight}, []int{4}, api.OK},
	{changed(func(c *api.ShCode) { c.All = 1 }), []int{signal, speed, park}, []int{2}, api.OK},
	{changed(func(c *api.ShCode) { c.All = 2 }), []int{signal, speed, park}, []int{1}, api.OK},
	{changed(func(c *api.ShCode) { c.All = 0 }), []int{signal, speed, park}, []int{1, 2}, api.OK},
	{changed(func(c *api.ShCode) { c.All, c.Faults[0].Points, c.Faults[0].Limit = 5, 2, 12 }), []int{signal, signal, signal, speed, park}, []int{1, 2}, api.OK},
	// Both together.
	{example(), []int{redlight, signal, speed, speed, signal, signal, park}, []int{1, 2, 3}, api.OK},
	// Manoeuvres stay, wherever they are, and lines without points can stay.
	{changed(func(c *api.ShCode) { c.Faults[2].Points, c.Faults[2].Limit = 0, 12 }), []int{redlight, park, redlight, speed, speed}, []int{4}, api.OK},
	// All lines can be struck, if there are no manoeuvres.
	{changed(func(c *api.ShCode) { c.Manoeuvres = nil }), []int{redlight, redlight}, []int{1, 2}, api.OK},
	{least(), []int{0}, []int{1}, api.OK},
	{least(), slices.Repeat([]int{0}, 12), []int{1, 2, 3, 4, 5, 6, 7, 8, 9, 10, 11, 12}, api.OK},
	{changed(func(c *api.ShCode) { *c = least(); c.Faults[0].Limit = 6 }), slices.Repeat([]int{0}, 12), []int{1, 2, 3, 4, 5, 6}, api.OK},
	{changed(func(c *api.ShCode) { *c = greatest(); c.All = 139 }), []int{0, 1, 6, 2, 3, 7, 4, 5, 8, 5, 5, 5}, []int{1, 2, 4}, api.OK},
}

// TestAppeal checks P10.7.
func TestAppeal(t *testing.T) {
	for _, one := range appealCases {
		if lines, e := sheet.Appeal(one.c, one.test); !slices.Equal(lines, one.lines) || e != one.e {
			t.Errorf("Appeal of %v and %v = %v, %d, not %v, %d", one.c, one.test, lines, e, one.lines, one.e)
		}
	}
}

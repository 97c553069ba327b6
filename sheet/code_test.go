package sheet_test

import (
	"math"
	"slices"
	"strings"
	"testing"

	"bitepoint/api"
	"bitepoint/sheet"
)

// What can be written in the example.
const (
	signal, speed, redlight = 0, 1, 2
	park                    = 3
)

// example is C of the document's examples.
func example() api.ShCode {
	return api.ShCode{
		Faults:     []api.ShFault{{Name: "signal", Points: 1, Limit: 3}, {Name: "speed", Points: 2, Limit: 1}, {Name: "redlight", Points: 5}},
		Manoeuvres: []string{"park"},
		All:        4,
	}
}

// left is S of the document's examples.
func left() api.ShSheet { return sheetOf(4, line(1, signal, 1), line(3, park, 3)) }

// line is a line that was kept.
func line(no, what, sum int) api.ShLine { return api.ShLine{No: no, What: what, Sum: sum} }

// sheetOf is a sheet with so many lines.
func sheetOf(lines int, kept ...api.ShLine) api.ShSheet { return api.ShSheet{Lines: lines, Kept: kept} }

// fault is a fault of some name.
func fault(name string, points, limit int) api.ShFault {
	return api.ShFault{Name: name, Points: points, Limit: limit}
}

// greatest is a code of which all is as great as can be.
func greatest() api.ShCode {
	c := api.ShCode{All: 240}
	for _, letter := range []string{"a", "b", "c", "d", "e", "f"} {
		c.Faults = append(c.Faults, fault(strings.Repeat(letter, 16), 20, 12))
	}
	for _, letter := range []string{"x", "y", "z"} {
		c.Manoeuvres = append(c.Manoeuvres, strings.Repeat(letter, 16))
	}
	return c
}

// least is a code of which all is as little as can be.
func least() api.ShCode { return api.ShCode{Faults: []api.ShFault{fault("a", 0, 0)}} }

// changed is the example with a change.
func changed(change func(c *api.ShCode)) api.ShCode {
	c := example()
	change(&c)
	return c
}

// checkCases are changes of the example, and where its first error is then.
var checkCases = []struct {
	change   func(c *api.ShCode)
	part, at int
	e        api.Errno
}{
	{func(c *api.ShCode) {}, 0, 0, api.OK},
	{func(c *api.ShCode) { *c = greatest() }, 0, 0, api.OK},
	{func(c *api.ShCode) { *c = least() }, 0, 0, api.OK},
	{func(c *api.ShCode) { c.Manoeuvres = nil }, 0, 0, api.OK},
	{func(c *api.ShCode) { c.Manoeuvres = []string{} }, 0, 0, api.OK},
	// How many faults and manoeuvres there are, whatever else is wrong.
	{func(c *api.ShCode) { *c = api.ShCode{} }, 1, 0, api.ErrLong},
	{func(c *api.ShCode) { c.Faults = nil }, 1, 0, api.ErrLong},
	{func(c *api.ShCode) { c.Faults, c.All = []api.ShFault{}, -1 }, 1, 0, api.ErrLong},
	{func(c *api.ShCode) { *c = greatest(); c.Faults = append(c.Faults, fault("g", 0, 0)) }, 1, 0, api.ErrLong},
	{func(c *api.ShCode) { c.Faults = make([]api.ShFault, 7) }, 1, 0, api.ErrLong},
	{func(c *api.ShCode) { c.Manoeuvres = []string{"a", "b", "c"} }, 0, 0, api.OK},
	{func(c *api.ShCode) { c.Manoeuvres = []string{"a", "b", "c", "d"} }, 1, 0, api.ErrLong},
	{func(c *api.ShCode) { c.Manoeuvres, c.Faults[0].Name = make([]string, 4), "" }, 1, 0, api.ErrLong},
	// The names of faults.
	{func(c *api.ShCode) { c.Faults[0].Name = "" }, 2, 0, api.ErrForm},
	{func(c *api.ShCode) { c.Faults[1].Name = "Speed" }, 2, 1, api.ErrForm},
	{func(c *api.ShCode) { c.Faults[1].Name = "1speed" }, 2, 1, api.ErrForm},
	{func(c *api.ShCode) { c.Faults[1].Name = "speed1" }, 0, 0, api.OK},
	{func(c *api.ShCode) { c.Faults[2].Name = "red light" }, 2, 2, api.ErrForm},
	{func(c *api.ShCode) { c.Faults[2].Name = "red\n" }, 2, 2, api.ErrForm},
	{func(c *api.ShCode) { c.Faults[2].Name = "röt" }, 2, 2, api.ErrForm},
	{func(c *api.ShCode) { c.Faults[2].Name = strings.Repeat("r", 16) }, 0, 0, api.OK},
	{func(c *api.ShCode) { c.Faults[2].Name = strings.Repeat("r", 17) }, 2, 2, api.ErrForm},
	{func(c *api.ShCode) { c.Faults[2].Name = strings.Repeat("r", 100000) }, 2, 2, api.ErrForm},
	{func(c *api.ShCode) { c.Faults[1].Name = "signal" }, 2, 1, api.ErrTwice},
	{func(c *api.ShCode) { c.Faults[2].Name = "signal" }, 2, 2, api.ErrTwice},
	{func(c *api.ShCode) { c.Faults[2].Name, c.Faults[2].Points = "speed", 21 }, 2, 2, api.ErrTwice},
	{func(c *api.ShCode) { c.Faults[0].Name, c.Faults[1].Name = "x y", "x y" }, 2, 0, api.ErrForm},
	{func(c *api.ShCode) { c.Faults[0].Name, c.Faults[0].Limit = "-", 13 }, 2, 0, api.ErrForm},
	// Their points and limits.
	{func(c *api.ShCode) { c.Faults[0].Points, c.Faults[0].Limit = 0, 0 }, 0, 0, api.OK},
	{func(c *api.ShCode) { c.Faults[2].Points, c.Faults[2].Limit = 20, 12 }, 0, 0, api.OK},
	{func(c *api.ShCode) { c.Faults[0].Points = -1 }, 2, 0, api.ErrRange},
	{func(c *api.ShCode) { c.Faults[0].Points = 21 }, 2, 0, api.ErrRange},
	{func(c *api.ShCode) { c.Faults[1].Points = math.MinInt }, 2, 1, api.ErrRange},
	{func(c *api.ShCode) { c.Faults[1].Points = math.MaxInt }, 2, 1, api.ErrRange},
	{func(c *api.ShCode) { c.Faults[2].Limit = -1 }, 2, 2, api.ErrRange},
	{func(c *api.ShCode) { c.Faults[2].Limit = 13 }, 2, 2, api.ErrRange},
	{func(c *api.ShCode) { c.Faults[1].Limit = math.MinInt }, 2, 1, api.ErrRange},
	{func(c *api.ShCode) { c.Faults[1].Limit, c.Faults[2].Name = math.MaxInt, "" }, 2, 1, api.ErrRange},
	{func(c *api.ShCode) { c.Faults[2].Limit, c.Manoeuvres[0], c.All = 13, "", 241 }, 2, 2, api.ErrRange},
	// Manoeuvres.
	{func(c *api.ShCode) { c.Manoeuvres[0] = "" }, 3, 0, api.ErrForm},
	{func(c *api.ShCode) { c.Manoeuvres = []string{"a", "b", "C"} }, 3, 2, api.ErrForm},
	{func(c *api.ShCode) { c.Manoeuvres = []string{"a", "2b", "2b"} }, 3, 1, api.ErrForm},
	{func(c *api.ShCode) { c.Manoeuvres[0] = strings.Repeat("p", 17) }, 3, 0, api.ErrForm},
	{func(c *api.ShCode) { c.Manoeuvres[0] = "signal" }, 3, 0, api.ErrTwice},
	{func(c *api.ShCode) { c.Manoeuvres = []string{"a", "redlight"} }, 3, 1, api.ErrTwice},
	{func(c *api.ShCode) { c.Manoeuvres = []string{"a", "b", "a"} }, 3, 2, api.ErrTwice},
	{func(c *api.ShCode) { c.Manoeuvres, c.All = []string{"a", "a", ""}, -1 }, 3, 1, api.ErrTwice},
	{func(c *api.ShCode) { c.Faults[0].Name, c.Manoeuvres[0] = "park", "signal" }, 0, 0, api.OK},
	// All.
	{func(c *api.ShCode) { c.All = 0 }, 0, 0, api.OK},
	{func(c *api.ShCode) { c.All = 240 }, 0, 0, api.OK},
	{func(c *api.ShCode) { c.All = -1 }, 4, 0, api.ErrRange},
	{func(c *api.ShCode) { c.All = 241 }, 4, 0, api.ErrRange},
	{func(c *api.ShCode) { c.All = math.MinInt }, 4, 0, api.ErrRange},
	{func(c *api.ShCode) { c.All = math.MaxInt }, 4, 0, api.ErrRange},
}

// TestCheck checks P10.1, and that all other functions return the error of a
// code first.
func TestCheck(t *testing.T) {
	for i, one := range checkCases {
		c := changed(one.change)
		part, at, e := sheet.Check(c)
		if part != one.part || at != one.at || e != one.e {
			t.Errorf("case %d: Check of %v = %d, %d, %d, not %d, %d, %d", i, c, part, at, e, one.part, one.at, one.e)
		}
		if one.e == api.OK {
			continue
		}
		a := arguments{c: c, test: nil, lost: []int{0}, s: api.ShSheet{}, lines: []int{0}, text: strings.Repeat("x", 601)}
		for f, is := range a.results() {
			if is.e != one.e {
				t.Errorf("case %d: the function %d returns %d, not %d", i, f, is.e, one.e)
			}
		}
	}
}

// testErrors are whole tests of the example with an error.
var testErrors = []struct {
	test []int
	e    api.Errno
}{
	{nil, api.ErrLong}, {[]int{}, api.ErrLong}, {slices.Repeat([]int{signal}, 13), api.ErrLong},
	{slices.Repeat([]int{-1}, 13), api.ErrLong}, {slices.Repeat([]int{signal}, 100000), api.ErrLong},
	{[]int{4}, api.ErrNone}, {[]int{-1}, api.ErrNone}, {[]int{signal, park, 4, -1}, api.ErrNone},
	{[]int{signal, math.MaxInt}, api.ErrNone}, {[]int{math.MinInt, signal}, api.ErrNone},
	{append(slices.Repeat([]int{signal}, 11), 9), api.ErrNone},
}

// TestErrorsOfTests checks the error of a whole test in Judge, Keep and Appeal.
func TestErrorsOfTests(t *testing.T) {
	for _, one := range testErrors {
		if points, passes, e := sheet.Judge(example(), one.test); points != 0 || passes || e != one.e {
			t.Errorf("Judge of %v = %d, %t, %d", one.test, points, passes, e)
		}
		if s, e := sheet.Keep(example(), one.test, []int{0}); s.Lines != 0 || s.Kept != nil || e != one.e {
			t.Errorf("Keep of %v = %v, %d", one.test, s, e)
		}
		if lines, e := sheet.Appeal(example(), one.test); lines != nil || e != one.e {
			t.Errorf("Appeal of %v = %v, %d", one.test, lines, e)
		}
	}
}

// judgeCases are codes and whole tests, and how they are judged.
var judgeCases = []struct {
	c      api.ShCode
	test   []int
	points int
	passes bool
}{
	// The document's examples.
	{example(), []int{signal, speed, park, signal}, 4, true},
	{example(), []int{signal, speed, park, redlight}, 8, false},
	{example(), []int{signal, signal}, 2, false},
	// A single line.
	{example(), []int{park}, 0, true},
	{example(), []int{signal}, 1, false},
	{example(), []int{redlight}, 5, false},
	// As many faults as the Limit, and one more.
	{example(), []int{park, signal, signal, signal}, 3, true},
	{example(), []int{signal, signal, signal, signal, park}, 4, false},
	{example(), []int{speed, park}, 2, true},
	{example(), []int{speed, park, speed}, 4, false},
	{changed(func(c *api.ShCode) { c.Faults[1].Limit = 2 }), []int{speed, park, speed}, 4, true},
	{changed(func(c *api.ShCode) { c.All, c.Faults[2].Points = 240, 0 }), []int{redlight, park}, 0, false},
	// As many points as All, and one more.
	{changed(func(c *api.ShCode) { c.All = 3 }), []int{signal, speed, park, signal}, 4, false},
	{changed(func(c *api.ShCode) { c.All = 0 }), []int{park, park}, 0, true},
	{changed(func(c *api.ShCode) { c.All = 0 }), []int{park, signal}, 1, false},
	// Manoeuvres: each one, any number of times, anywhere, or none.
	{example(), slices.Repeat([]int{park}, 12), 0, true},
	{changed(func(c *api.ShCode) { c.Manoeuvres = nil }), []int{signal, signal}, 2, true},
	{changed(func(c *api.ShCode) { c.Manoeuvres = []string{"park", "turn"} }), []int{3, signal, 4}, 1, true},
	{changed(func(c *api.ShCode) { c.Manoeuvres = []string{"park", "turn"} }), []int{3, signal, 3}, 1, false},
	{changed(func(c *api.ShCode) { c.Manoeuvres = []string{"park", "turn"} }), []int{4, 4, 4}, 0, false},
	// As little as can be.
	{least(), []int{0}, 0, false},
	{changed(func(c *api.ShCode) { *c = least(); c.Faults[0].Limit = 12 }), slices.Repeat([]int{0}, 12), 0, true},
	{changed(func(c *api.ShCode) { *c = least(); c.Faults[0].Limit = 11 }), slices.Repeat([]int{0}, 12), 0, false},
	// As much as can be.
	{changed(func(c *api.ShCode) { *c = greatest(); c.Manoeuvres = nil }), slices.Repeat([]int{5}, 12), 240, true},
	{changed(func(c *api.ShCode) { *c = greatest(); c.Manoeuvres, c.All = nil, 239 }), slices.Repeat([]int{0, 5}, 6), 240, false},
	{greatest(), slices.Repeat([]int{5}, 12), 240, false},
	{greatest(), []int{0, 1, 2, 3, 4, 5, 6, 7, 8, 0, 1, 2}, 180, true},
	{greatest(), []int{0, 1, 2, 3, 4, 5, 6, 7, 7, 0, 1, 2}, 180, false},
}

// TestJudge checks P10.2.
func TestJudge(t *testing.T) {
	for _, one := range judgeCases {
		points, passes, e := sheet.Judge(one.c, one.test)
		if points != one.points || passes != one.passes || e != api.OK {
			t.Errorf("Judge of %v and %v = %d, %t, %d, not %d, %t", one.c, one.test, points, passes, e, one.points, one.passes)
		}
	}
}

// keepCases are whole tests of the example and lines that are lost, and what
// is left.
var keepCases = []struct {
	test, lost []int
	s          api.ShSheet
	e          api.Errno
}{
	{[]int{signal, speed, park, signal}, []int{2, 4}, left(), api.OK},
	{[]int{signal, speed, park, redlight}, []int{2, 4}, left(), api.OK},
	{[]int{signal, speed, park, signal}, nil, sheetOf(4, line(1, signal, 1), line(2, speed, 3), line(3, park, 3), line(4, signal, 4)), api.OK},
	{[]int{redlight}, []int{}, sheetOf(1, line(1, redlight, 5)), api.OK},
	{[]int{redlight}, []int{1}, sheetOf(1), api.OK},
	{[]int{redlight, park, speed}, []int{1, 2, 3}, sheetOf(3), api.OK},
	{[]int{redlight, park, speed}, []int{1, 2}, sheetOf(3, line(3, speed, 7)), api.OK},
	{[]int{redlight, park, speed}, []int{3}, sheetOf(3, line(1, redlight, 5), line(2, park, 5)), api.OK},
	// Numbers of no lines.
	{[]int{redlight, park, speed}, []int{0}, api.ShSheet{}, api.ErrNone},
	{[]int{redlight, park, speed}, []int{4}, api.ShSheet{}, api.ErrNone},
	{[]int{redlight, park, speed}, []int{-1}, api.ShSheet{}, api.ErrNone},
	{[]int{redlight, park, speed}, []int{1, 3, math.MaxInt}, api.ShSheet{}, api.ErrNone},
	{[]int{redlight, park, speed}, []int{1, math.MinInt, 1}, api.ShSheet{}, api.ErrNone},
	{[]int{redlight, park, speed}, []int{2, 0}, api.ShSheet{}, api.ErrNone},
	// Numbers that are not above the one before.
	{[]int{redlight, park, speed}, []int{2, 2}, api.ShSheet{}, api.ErrArg},
	{[]int{redlight, park, speed}, []int{3, 1}, api.ShSheet{}, api.ErrArg},
	{[]int{redlight, park, speed}, []int{1, 2, 1, 4}, api.ShSheet{}, api.ErrArg},
	{[]int{redlight, park, speed}, []int{4, 4}, api.ShSheet{}, api.ErrNone},
	// Too many of them: behind the errors of each.
	{[]int{park, park, park, park}, []int{1, 2, 3, 4}, api.ShSheet{}, api.ErrLong},
	{[]int{park, park, park, park, park}, []int{1, 2, 3, 5}, api.ShSheet{}, api.ErrLong},
	{[]int{park, park, park, park, park}, []int{1, 2, 3, 5, 6}, api.ShSheet{}, api.ErrNone},
	{[]int{park, park, park, park, park}, []int{1, 2, 3, 5, 4}, api.ShSheet{}, api.ErrArg},
	{[]int{park, park, park, park, park}, []int{2, 3, 4}, sheetOf(5, line(1, park, 0), line(5, park, 0)), api.OK},
}

// TestKeep checks P10.3.
func TestKeep(t *testing.T) {
	for _, one := range keepCases {
		s, e := sheet.Keep(example(), one.test, one.lost)
		if !same(s, one.s) || e != one.e {
			t.Errorf("Keep of %v without %v = %v, %d, not %v, %d", one.test, one.lost, s, e, one.s, one.e)
		}
	}
	test := slices.Repeat([]int{5, 0}, 6)
	s, e := sheet.Keep(greatest(), test, []int{10, 11})
	if e != api.OK || len(s.Kept) != 10 || s.Lines != 12 || s.Kept[9] != line(12, 0, 240) || s.Kept[8] != line(9, 5, 180) {
		t.Errorf("Keep of %v = %v, %d", test, s, e)
	}
}

// same reports whether two sheets are the same: nil and empty slices are, too.
func same(a, b api.ShSheet) bool {
	return a.Lines == b.Lines && slices.Equal(a.Kept, b.Kept)
}

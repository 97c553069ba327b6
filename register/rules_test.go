package register_test

import (
	"math"
	"slices"
	"strings"
	"testing"

	"bitepoint/api"
	"bitepoint/register"
)

// The classes of the example, and its code.
const (
	am, b  = 0, 1
	manual = 1
)

// example is R of the document's examples.
func example() api.RgRules {
	return api.RgRules{
		System: api.ClSystem{
			Classes: []api.ClClass{{Name: "am", Needs: -1, Age: 16}, {Name: "b", Includes: []int{am}, Needs: -1, Age: 18, Term: 15}},
			Codes:   []string{"manual"},
		},
		Treaties: []api.RgTreaty{treaty("dover", b, manual, 8000, 9000)},
		Limit:    8, Fall: 1000, Ban: 90,
	}
}

// treaty is a treaty.
func treaty(name string, class, codes, lo, hi int) api.RgTreaty {
	return api.RgTreaty{Name: name, Right: right(class, codes), Days: api.Span{Lo: lo, Hi: hi}}
}

// right is a right.
func right(class, codes int) api.ClRight { return api.ClRight{Class: class, Codes: codes} }

// changed is the example with a change.
func changed(change func(r *api.RgRules)) api.RgRules {
	r := example()
	change(&r)
	return r
}

// greatest are rules of which all is as great as can be.
func greatest() api.RgRules {
	var r api.RgRules
	for n := range 12 {
		name := strings.Repeat(string(rune('a'+n)), 16)
		r.System.Classes = append(r.System.Classes, api.ClClass{Name: name, Needs: -1, Age: 100, Term: 100})
	}
	for n := range 8 {
		r.System.Codes = append(r.System.Codes, strings.Repeat(string(rune('p'+n)), 16))
	}
	for n := range 6 {
		r.Treaties = append(r.Treaties, treaty(strings.Repeat(string(rune('a'+n)), 16), 11, 255, 0, 40000))
	}
	r.Limit, r.Fall, r.Ban = 100, 40000, 40000
	return r
}

// least are rules of which all is as little as can be.
func least() api.RgRules {
	return api.RgRules{System: api.ClSystem{Classes: []api.ClClass{{Name: "a", Needs: -1}}}, Limit: 1, Fall: 1, Ban: 1}
}

// checkCases are changes of the example, and where its first error is then.
var checkCases = []struct {
	change   func(r *api.RgRules)
	part, at int
	e        api.Errno
}{
	{func(r *api.RgRules) {}, 0, 0, api.OK},
	{func(r *api.RgRules) { *r = greatest() }, 0, 0, api.OK},
	{func(r *api.RgRules) { *r = least() }, 0, 0, api.OK},
	{func(r *api.RgRules) { r.Treaties = nil }, 0, 0, api.OK},
	{func(r *api.RgRules) { r.Treaties = []api.RgTreaty{} }, 0, 0, api.OK},
	// The system, whatever else is wrong.
	{func(r *api.RgRules) { *r = api.RgRules{} }, 1, 0, api.ErrLong},
	{func(r *api.RgRules) { r.System.Classes, r.Treaties = nil, make([]api.RgTreaty, 7) }, 1, 0, api.ErrLong},
	{func(r *api.RgRules) { r.System.Codes = make([]string, 9) }, 1, 0, api.ErrLong},
	{func(r *api.RgRules) { r.System.Classes[1].Name = "B" }, 1, 0, api.ErrForm},
	{func(r *api.RgRules) { r.System.Classes[1].Name, r.Limit = "am", 0 }, 1, 0, api.ErrTwice},
	{func(r *api.RgRules) { r.System.Classes[1].Needs = 2 }, 1, 0, api.ErrNone},
	{func(r *api.RgRules) { r.System.Classes[1].Needs = 1 }, 1, 0, api.ErrArg},
	{func(r *api.RgRules) { r.System.Classes[1].Term = 101 }, 1, 0, api.ErrRange},
	{func(r *api.RgRules) { r.System.Classes[0].Includes = []int{1} }, 1, 0, api.ErrDown},
	{func(r *api.RgRules) { r.System.Codes[0], r.Treaties[0].Name = "", "" }, 1, 0, api.ErrForm},
	// How many treaties there are.
	{func(r *api.RgRules) { r.Treaties = slices.Repeat(r.Treaties, 7) }, 2, 0, api.ErrLong},
	{func(r *api.RgRules) { r.Treaties, r.Limit = make([]api.RgTreaty, 7), 0 }, 2, 0, api.ErrLong},
	{func(r *api.RgRules) { *r = greatest(); r.Treaties = append(r.Treaties, treaty("g", 0, 0, 0, 0)) }, 2, 0, api.ErrLong},
	{func(r *api.RgRules) { r.Treaties = slices.Repeat(r.Treaties, 6) }, 2, 1, api.ErrTwice},
	// Their names.
	{func(r *api.RgRules) { r.Treaties[0].Name = "" }, 2, 0, api.ErrForm},
	{func(r *api.RgRules) { r.Treaties[0].Name = "Dover" }, 2, 0, api.ErrForm},
	{func(r *api.RgRules) { r.Treaties[0].Name = strings.Repeat("d", 17) }, 2, 0, api.ErrForm},
	{func(r *api.RgRules) { r.Treaties[0].Name = strings.Repeat("d", 16) }, 0, 0, api.OK},
	{func(r *api.RgRules) { r.Treaties[0].Name = "am" }, 0, 0, api.OK},
	{func(r *api.RgRules) { r.Treaties[0].Name, r.Treaties[0].Right.Class = "x y", 9 }, 2, 0, api.ErrForm},
	{func(r *api.RgRules) { r.Treaties = append(r.Treaties, treaty("dover", 9, 9, -1, -2)) }, 2, 1, api.ErrTwice},
	{func(r *api.RgRules) {
		r.Treaties = append(r.Treaties, treaty("a", 0, 0, 0, 0), treaty("b", 0, 0, 0, 0), treaty("a", 0, 0, 0, 0))
	}, 2, 3, api.ErrTwice},
	{func(r *api.RgRules) {
		r.Treaties = []api.RgTreaty{treaty("a", 0, 0, 0, 0), treaty("b", 2, 0, 0, 0), treaty("", 0, 0, 0, 0)}
	}, 2, 1, api.ErrNone},
	{func(r *api.RgRules) { r.Treaties[0].Name = ""; r.Treaties = append(r.Treaties, treaty("", 0, 0, 0, 0)) }, 2, 0, api.ErrForm},
	// Their rights.
	{func(r *api.RgRules) { r.Treaties[0].Right = right(2, 2) }, 2, 0, api.ErrNone},
	{func(r *api.RgRules) { r.Treaties[0].Right = right(-1, 0) }, 2, 0, api.ErrNone},
	{func(r *api.RgRules) { r.Treaties[0].Right = right(math.MaxInt, math.MinInt) }, 2, 0, api.ErrNone},
	{func(r *api.RgRules) { r.Treaties[0].Right = right(1, 2) }, 2, 0, api.ErrRange},
	{func(r *api.RgRules) { r.Treaties[0].Right = right(1, -1) }, 2, 0, api.ErrRange},
	{func(r *api.RgRules) { r.Treaties[0] = treaty("dover", 2, 0, -1, 0) }, 2, 0, api.ErrNone},
	{func(r *api.RgRules) { r.Treaties[0] = treaty("dover", 0, 2, 5, 0) }, 2, 0, api.ErrRange},
	// Their days.
	{func(r *api.RgRules) { r.Treaties[0].Days = api.Span{Lo: 0, Hi: 40000} }, 0, 0, api.OK},
	{func(r *api.RgRules) { r.Treaties[0].Days = api.Span{Lo: 7, Hi: 7} }, 0, 0, api.OK},
	{func(r *api.RgRules) { r.Treaties[0].Days = api.Span{Lo: 8, Hi: 7} }, 2, 0, api.ErrArg},
	{func(r *api.RgRules) { r.Treaties[0].Days = api.Span{Lo: 40000, Hi: 0} }, 2, 0, api.ErrArg},
	{func(r *api.RgRules) { r.Treaties[0].Days = api.Span{Lo: -1, Hi: 7} }, 2, 0, api.ErrRange},
	{func(r *api.RgRules) { r.Treaties[0].Days = api.Span{Lo: 0, Hi: 40001} }, 2, 0, api.ErrRange},
	{func(r *api.RgRules) { r.Treaties[0].Days = api.Span{Lo: 0, Hi: -1} }, 2, 0, api.ErrRange},
	{func(r *api.RgRules) { r.Treaties[0].Days = api.Span{Lo: 40001, Hi: 40000} }, 2, 0, api.ErrRange},
	{func(r *api.RgRules) { r.Treaties[0].Days = api.Span{Lo: math.MaxInt, Hi: math.MinInt} }, 2, 0, api.ErrRange},
	{func(r *api.RgRules) { r.Treaties[0].Days, r.Limit = api.Span{Lo: 8, Hi: 7}, 0 }, 2, 0, api.ErrArg},
	// Limit, Fall and Ban.
	{func(r *api.RgRules) { r.Limit, r.Fall, r.Ban = 1, 1, 1 }, 0, 0, api.OK},
	{func(r *api.RgRules) { r.Limit, r.Fall, r.Ban = 100, 40000, 40000 }, 0, 0, api.OK},
	{func(r *api.RgRules) { r.Limit = 0 }, 3, 0, api.ErrRange},
	{func(r *api.RgRules) { r.Limit = 101 }, 3, 0, api.ErrRange},
	{func(r *api.RgRules) { r.Limit = math.MinInt }, 3, 0, api.ErrRange},
	{func(r *api.RgRules) { r.Fall = 0 }, 3, 0, api.ErrRange},
	{func(r *api.RgRules) { r.Fall = 40001 }, 3, 0, api.ErrRange},
	{func(r *api.RgRules) { r.Fall = math.MaxInt }, 3, 0, api.ErrRange},
	{func(r *api.RgRules) { r.Ban = 0 }, 3, 0, api.ErrRange},
	{func(r *api.RgRules) { r.Ban = 40001 }, 3, 0, api.ErrRange},
	{func(r *api.RgRules) { r.Ban = -1 }, 3, 0, api.ErrRange},
}

// TestCheck checks P11.1, and that all other functions return the error of
// rules first.
func TestCheck(t *testing.T) {
	for i, one := range checkCases {
		r := changed(one.change)
		part, at, e := register.Check(r)
		if part != one.part || at != one.at || e != one.e {
			t.Errorf("case %d: Check of %v = %d, %d, %d, not %d, %d, %d", i, r, part, at, e, one.part, one.at, one.e)
		}
		if one.e == api.OK {
			continue
		}
		a := arguments{r: r, p: api.RgPerson{Born: -1}, day: -1, drive: api.RgDrive{Day: -1}, drives: make([]api.RgDrive, 31), text: strings.Repeat("x", 6001)}
		for f, is := range a.results() {
			if is.e != one.e {
				t.Errorf("case %d: the function %d returns %d, not %d", i, f, is.e, one.e)
			}
		}
	}
}

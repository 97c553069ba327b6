package course_test

import (
	"math"
	"reflect"
	"slices"
	"testing"

	"bitepoint/api"
	"bitepoint/course"
)

// The places, the sets and the times of the example.
const (
	home, hill, ring, depot = 0, 1, 2, 3
	tram, bend              = 1, 2
	am, pm                  = 0, 1
)

// span is a span.
func span(lo, hi int) api.Span { return api.Span{Lo: lo, Hi: hi} }

// by are the steps by streets: a street, or -1 less it, if it is driven back.
func by(streets ...int) []api.StStep {
	var steps []api.StStep
	for _, n := range streets {
		step := api.StStep{Street: n}
		if n < 0 {
			step = api.StStep{Street: -1 - n, Back: true}
		}
		steps = append(steps, step)
	}
	return steps
}

// loops are the steps of the route 0 of the example, so many times.
func loops(many int) []api.StStep { return slices.Repeat(by(2, 3), many) }

// example is C of the document's examples.
func example() api.CrCourse {
	return api.CrCourse{
		Town: api.StTown{
			Places: []string{"home", "hill", "ring", "depot"},
			Shows:  []string{"tram", "bend"},
			Times:  []string{"am", "pm"},
			Streets: []api.StStreet{
				{From: home, To: hill, Metres: 300, Minutes: span(1, 2), Both: true, Shows: []int{bend, bend}},
				{From: hill, To: ring, Metres: 500, Minutes: span(2, 3), Both: true, Shows: []int{0, tram}},
				{From: home, To: ring, Metres: 400, Minutes: span(1, 4), Shows: []int{0, 0}},
				{From: ring, To: home, Metres: 600, Minutes: span(2, 2), Shows: []int{tram, tram}},
			},
		},
		Centre: home,
		Hard: []api.CrHard{
			{Base: 10, Per: 1, Traffic: span(0, 5)},
			{Base: 20, Per: 2, Traffic: span(1, 3)},
			{Base: 30, Per: 0, Traffic: span(0, 0)},
			{Base: 5, Per: 10, Traffic: span(0, 9)},
		},
		Routes: [][]api.StStep{by(2, 3), by(0, 1, 3), by(0, -1, 2, 3)},
	}
}

// hardest is the example with streets that are all as hard as can be, and two
// routes that are as far apart as can be.
func hardest() api.CrCourse {
	c := example()
	for at := range c.Hard {
		c.Hard[at] = api.CrHard{Base: 1000, Per: 100, Traffic: span(0, 100)}
	}
	c.Hard[0] = api.CrHard{}
	c.Routes = [][]api.StStep{slices.Repeat(by(0, -1), 30), loops(30)}
	return c
}

// still is a course in a town without streets.
func still() api.CrCourse {
	return api.CrCourse{Town: api.StTown{Places: []string{"a"}, Times: []string{"t"}}}
}

// checkCases are changes of the example, and where its first error is then.
var checkCases = []struct {
	change   func(c *api.CrCourse)
	part, at int
	e        api.Errno
}{
	{func(c *api.CrCourse) {}, 0, 0, api.OK},
	{func(c *api.CrCourse) { *c = hardest() }, 0, 0, api.OK},
	{func(c *api.CrCourse) { *c = still() }, 0, 0, api.OK},
	// The town: whichever part of it has an error, it is the part 1 of the course.
	{func(c *api.CrCourse) { *c = api.CrCourse{} }, 1, 0, api.ErrLong},
	{func(c *api.CrCourse) { c.Town.Times = nil }, 1, 0, api.ErrLong},
	{func(c *api.CrCourse) { c.Town.Places[3] = "Depot" }, 1, 0, api.ErrForm},
	{func(c *api.CrCourse) { c.Town.Shows[1], c.Centre = "tram", 9 }, 1, 0, api.ErrTwice},
	{func(c *api.CrCourse) { c.Town.Streets[2].To, c.Centre = 4, -1 }, 1, 0, api.ErrNone},
	{func(c *api.CrCourse) { c.Town.Streets[3].Metres, c.Hard = 0, nil }, 1, 0, api.ErrRange},
	{func(c *api.CrCourse) { c.Town.Streets[1].Minutes.Lo, c.Hard[0].Base = 4, -1 }, 1, 0, api.ErrArg},
	// The centre.
	{func(c *api.CrCourse) { c.Centre, c.Routes = depot, nil }, 0, 0, api.OK},
	{func(c *api.CrCourse) { c.Centre, c.Routes = 4, nil }, 1, 0, api.ErrNone},
	{func(c *api.CrCourse) { c.Centre, c.Hard = 4, nil }, 1, 0, api.ErrNone},
	{func(c *api.CrCourse) { c.Centre, c.Hard[0].Base, c.Routes[0] = -1, -1, nil }, 1, 0, api.ErrNone},
	{func(c *api.CrCourse) { c.Centre = math.MaxInt }, 1, 0, api.ErrNone},
	{func(c *api.CrCourse) { c.Centre = math.MinInt }, 1, 0, api.ErrNone},
	// How many Hard and Routes there are.
	{func(c *api.CrCourse) { c.Hard = nil }, 1, 0, api.ErrLong},
	{func(c *api.CrCourse) { c.Hard = c.Hard[:3] }, 1, 0, api.ErrLong},
	{func(c *api.CrCourse) { c.Hard = append(c.Hard, api.CrHard{}) }, 1, 0, api.ErrLong},
	{func(c *api.CrCourse) { c.Hard = append(c.Hard, api.CrHard{Base: -1}) }, 1, 0, api.ErrLong},
	{func(c *api.CrCourse) { *c = still(); c.Hard = make([]api.CrHard, 1) }, 1, 0, api.ErrLong},
	{func(c *api.CrCourse) { c.Routes = nil }, 0, 0, api.OK},
	{func(c *api.CrCourse) { c.Routes = [][]api.StStep{} }, 0, 0, api.OK},
	{func(c *api.CrCourse) { c.Routes = slices.Repeat(c.Routes[:1], 10) }, 0, 0, api.OK},
	{func(c *api.CrCourse) { c.Routes = slices.Repeat(c.Routes[:1], 11) }, 1, 0, api.ErrLong},
	{func(c *api.CrCourse) { c.Routes, c.Hard[0].Per = make([][]api.StStep, 11), 101 }, 1, 0, api.ErrLong},
	// How hard the streets are.
	{func(c *api.CrCourse) { c.Hard[0].Base, c.Hard[0].Per = 0, 0 }, 0, 0, api.OK},
	{func(c *api.CrCourse) { c.Hard[1].Base, c.Hard[1].Per = 1000, 100 }, 0, 0, api.OK},
	{func(c *api.CrCourse) { c.Hard[3].Traffic = span(100, 100) }, 0, 0, api.OK},
	{func(c *api.CrCourse) { c.Hard[3].Traffic = span(0, 100) }, 0, 0, api.OK},
	{func(c *api.CrCourse) { c.Hard[0].Base = -1 }, 2, 0, api.ErrRange},
	{func(c *api.CrCourse) { c.Hard[1].Base = 1001 }, 2, 1, api.ErrRange},
	{func(c *api.CrCourse) { c.Hard[2].Per = -1 }, 2, 2, api.ErrRange},
	{func(c *api.CrCourse) { c.Hard[3].Per = 101 }, 2, 3, api.ErrRange},
	{func(c *api.CrCourse) { c.Hard[1].Traffic = span(-1, 0) }, 2, 1, api.ErrRange},
	{func(c *api.CrCourse) { c.Hard[1].Traffic = span(100, 101) }, 2, 1, api.ErrRange},
	{func(c *api.CrCourse) { c.Hard[1].Traffic = span(101, 100) }, 2, 1, api.ErrRange},
	{func(c *api.CrCourse) { c.Hard[1].Traffic = span(0, -1) }, 2, 1, api.ErrRange},
	{func(c *api.CrCourse) { c.Hard[1].Traffic = span(3, 2) }, 2, 1, api.ErrArg},
	{func(c *api.CrCourse) { c.Hard[1].Traffic = span(100, 0) }, 2, 1, api.ErrArg},
	{func(c *api.CrCourse) { c.Hard[2] = api.CrHard{Base: 1001, Traffic: span(2, 1)} }, 2, 2, api.ErrRange},
	{func(c *api.CrCourse) { c.Hard[1].Traffic, c.Hard[2].Base = span(2, 1), -1 }, 2, 1, api.ErrArg},
	{func(c *api.CrCourse) { c.Hard[2].Base, c.Hard[3].Base = math.MaxInt, math.MinInt }, 2, 2, api.ErrRange},
	{func(c *api.CrCourse) { c.Hard[3].Per, c.Routes[0] = math.MaxInt, nil }, 2, 3, api.ErrRange},
	{func(c *api.CrCourse) { c.Hard[3].Traffic = span(math.MinInt, math.MaxInt) }, 2, 3, api.ErrRange},
	// The routes: how many steps they have.
	{func(c *api.CrCourse) { c.Routes[1] = nil }, 3, 1, api.ErrLong},
	{func(c *api.CrCourse) { c.Routes[2] = []api.StStep{} }, 3, 2, api.ErrLong},
	{func(c *api.CrCourse) { c.Routes[2] = loops(30) }, 0, 0, api.OK},
	{func(c *api.CrCourse) { c.Routes[2] = append(loops(29), by(0, 1, 3)...) }, 3, 2, api.ErrLong},
	{func(c *api.CrCourse) { c.Routes[0] = loops(31) }, 3, 0, api.ErrLong},
	{func(c *api.CrCourse) { c.Routes[0] = slices.Repeat(by(9), 61) }, 3, 0, api.ErrLong},
	{func(c *api.CrCourse) { c.Routes[0] = loops(551) }, 3, 0, api.ErrLong},
	// The errors of steps.
	{func(c *api.CrCourse) { c.Routes[0] = by(4) }, 3, 0, api.ErrNone},
	{func(c *api.CrCourse) { c.Routes[0][1] = api.StStep{Street: -1} }, 3, 0, api.ErrNone},
	{func(c *api.CrCourse) { c.Routes[0][1].Street = math.MaxInt }, 3, 0, api.ErrNone},
	{func(c *api.CrCourse) { c.Routes[1][2].Street = math.MinInt }, 3, 1, api.ErrNone},
	{func(c *api.CrCourse) { c.Routes[1] = by(0, 1, -3) }, 3, 1, api.ErrArg},
	{func(c *api.CrCourse) { c.Routes[1] = by(-3, -4) }, 3, 1, api.ErrArg},
	{func(c *api.CrCourse) { c.Routes[1] = by(1, 3) }, 3, 1, api.ErrDown},
	{func(c *api.CrCourse) { c.Routes[1] = by(0, 3) }, 3, 1, api.ErrDown},
	{func(c *api.CrCourse) { c.Routes[1] = by(0, 3, 9) }, 3, 1, api.ErrDown},
	{func(c *api.CrCourse) { c.Centre = ring }, 3, 0, api.ErrDown},
	{func(c *api.CrCourse) { c.Centre, c.Routes = ring, [][]api.StStep{by(3, 2), by(-2, 1)} }, 0, 0, api.OK},
	// Where they end.
	{func(c *api.CrCourse) { c.Routes[2] = by(2) }, 3, 2, api.ErrDown},
	{func(c *api.CrCourse) { c.Routes[2] = by(2, 3, 0) }, 3, 2, api.ErrDown},
	{func(c *api.CrCourse) { c.Routes[2] = by(0, -1) }, 0, 0, api.OK},
	{func(c *api.CrCourse) { c.Routes[2] = by(2, 3, 2, 3) }, 0, 0, api.OK},
	// The first one.
	{func(c *api.CrCourse) { c.Routes[1], c.Routes[2] = by(2), nil }, 3, 1, api.ErrDown},
	{func(c *api.CrCourse) { c.Routes[0], c.Routes[1] = by(9), nil }, 3, 0, api.ErrNone},
}

// TestCheck checks P9.1, and that all other functions return its error first.
func TestCheck(t *testing.T) {
	for i, c := range checkCases {
		is := example()
		c.change(&is)
		if part, at, e := course.Check(is); part != c.part || at != c.at || e != c.e {
			t.Errorf("%d: Check = %d, %d, %d, not %d, %d, %d", i, part, at, e, c.part, c.at, c.e)
		}
		// What the functions return first of their own errors comes behind it.
		after := func(e api.Errno) api.Errno {
			if c.e != api.OK {
				return c.e
			}
			return e
		}
		if hard, e := course.Hard(is, -1); hard != span(0, 0) || e != after(api.ErrNone) {
			t.Errorf("%d: Hard = %v, %d", i, hard, e)
		}
		if hard, e := course.At(is, -1, nil); hard != 0 || e != after(api.ErrNone) {
			t.Errorf("%d: At = %v, %d", i, hard, e)
		}
		if apart, e := course.Apart(is, -1, -1); !reflect.ValueOf(apart).IsZero() || e != after(api.ErrNone) {
			t.Errorf("%d: Apart = %v, %d", i, apart, e)
		}
		if streets, e := course.Differ(is, -1, -1); streets != nil || e != after(api.ErrNone) {
			t.Errorf("%d: Differ = %v, %d", i, streets, e)
		}
		if choice, e := course.Pick(is, api.CrWish{}); !reflect.ValueOf(choice).IsZero() || e != after(api.ErrRange) {
			t.Errorf("%d: Pick = %v, %d", i, choice, e)
		}
		if doubt, e := course.Doubt(is, make([]int, 11), -1); !reflect.ValueOf(doubt).IsZero() || e != after(api.ErrLong) {
			t.Errorf("%d: Doubt = %v, %d", i, doubt, e)
		}
	}
}

// TestHard checks P9.2.
func TestHard(t *testing.T) {
	more := example()
	more.Routes = append(more.Routes, by(0, -1), loops(30), by(0, 1, -2, -1))
	for i, c := range []struct {
		c     api.CrCourse
		route int
		want  api.Span
		e     api.Errno
	}{
		{example(), 0, span(35, 125), api.OK},
		{example(), 1, span(37, 136), api.OK},
		{example(), 2, span(55, 155), api.OK},
		{example(), 3, span(0, 0), api.ErrNone},
		{example(), -1, span(0, 0), api.ErrNone},
		{example(), math.MaxInt, span(0, 0), api.ErrNone},
		{example(), math.MinInt, span(0, 0), api.ErrNone},
		{still(), 0, span(0, 0), api.ErrNone},
		{more, 3, span(20, 30), api.OK},
		{more, 4, span(1050, 3750), api.OK},
		{more, 5, span(64, 82), api.OK},
		{hardest(), 0, span(0, 0), api.OK},
		{hardest(), 1, span(60000, 660000), api.OK},
	} {
		if hard, e := course.Hard(c.c, c.route); hard != c.want || e != c.e {
			t.Errorf("%d: Hard of %d = %v, %d, not %v, %d", i, c.route, hard, e, c.want, c.e)
		}
	}
}

// TestAt checks P9.2.
func TestAt(t *testing.T) {
	for i, c := range []struct {
		c       api.CrCourse
		route   int
		traffic []int
		want    int
		e       api.Errno
	}{
		{example(), 1, []int{5, 3, 0, 9}, 136, api.OK},
		{example(), 1, []int{0, 1, 0, 0}, 37, api.OK},
		{example(), 1, []int{2, 2, 0, 4}, 81, api.OK},
		{example(), 0, []int{5, 3, 0, 0}, 35, api.OK},
		{example(), 0, []int{0, 1, 0, 9}, 125, api.OK},
		{example(), 2, []int{3, 1, 0, 1}, 71, api.OK},
		{hardest(), 1, []int{0, 0, 100, 100}, 660000, api.OK},
		{hardest(), 1, []int{0, 100, 0, 100}, 360000, api.OK},
		// No route, before any error of the traffic.
		{example(), 3, []int{0, 1, 0, 0}, 0, api.ErrNone},
		{example(), -1, nil, 0, api.ErrNone},
		{example(), math.MaxInt, []int{9, 9, 9, 9}, 0, api.ErrNone},
		{still(), 0, nil, 0, api.ErrNone},
		// Not a number for each street, before any number that is out of its range.
		{example(), 0, nil, 0, api.ErrLong},
		{example(), 0, []int{}, 0, api.ErrLong},
		{example(), 0, []int{0, 1, 0}, 0, api.ErrLong},
		{example(), 0, []int{0, 1, 0, 0, 0}, 0, api.ErrLong},
		{example(), 0, []int{-1, 1, 0}, 0, api.ErrLong},
		{example(), 0, []int{-1, 1, 0, 0, 0}, 0, api.ErrLong},
		// Out of the range of its street, also of one that the route does not drive.
		{example(), 0, []int{-1, 1, 0, 0}, 0, api.ErrRange},
		{example(), 0, []int{6, 1, 0, 0}, 0, api.ErrRange},
		{example(), 0, []int{0, 0, 0, 0}, 0, api.ErrRange},
		{example(), 0, []int{0, 4, 0, 0}, 0, api.ErrRange},
		{example(), 1, []int{0, 1, 1, 0}, 0, api.ErrRange},
		{example(), 1, []int{0, 1, -1, 0}, 0, api.ErrRange},
		{example(), 1, []int{0, 1, 0, 10}, 0, api.ErrRange},
		{example(), 1, []int{0, 1, 0, -1}, 0, api.ErrRange},
		{example(), 1, []int{math.MinInt, 1, 0, 0}, 0, api.ErrRange},
		{example(), 1, []int{0, 1, 0, math.MaxInt}, 0, api.ErrRange},
	} {
		if hard, e := course.At(c.c, c.route, c.traffic); hard != c.want || e != c.e {
			t.Errorf("%d: At of %d and %v = %d, %d, not %d, %d", i, c.route, c.traffic, hard, e, c.want, c.e)
		}
	}
}

// TestApart checks P9.3.
func TestApart(t *testing.T) {
	lo, flat, same := []int{0, 1, 0, 0}, example(), example()
	flat.Hard[0].Per, flat.Hard[2].Traffic = 0, span(2, 7)
	same.Hard[0].Traffic = span(4, 4)
	same.Routes = append(same.Routes, loops(2), by(2, 3, 0, -1))
	for i, c := range []struct {
		c            api.CrCourse
		a, b         int
		harder       api.Span
		least, great []int
	}{
		{example(), 0, 1, span(-11, -2), []int{5, 3, 0, 0}, lo},
		{example(), 1, 0, span(2, 11), lo, []int{5, 3, 0, 0}},
		{example(), 0, 2, span(-30, -20), []int{5, 1, 0, 0}, lo},
		{example(), 2, 0, span(20, 30), lo, []int{5, 1, 0, 0}},
		// 1 has street 1 in place of 0 back and 2.
		{example(), 1, 2, span(-23, -14), []int{5, 1, 0, 0}, []int{0, 3, 0, 0}},
		{example(), 2, 1, span(14, 23), []int{0, 3, 0, 0}, []int{5, 1, 0, 0}},
		{example(), 0, 0, span(0, 0), lo, lo},
		{example(), 2, 2, span(0, 0), lo, lo},
		// Where traffic makes no street harder, it is the Lo of the street.
		{flat, 0, 1, span(-6, -2), []int{0, 3, 2, 0}, []int{0, 1, 2, 0}},
		{flat, 2, 0, span(20, 20), []int{0, 1, 2, 0}, []int{0, 1, 2, 0}},
		{same, 2, 0, span(28, 28), []int{4, 1, 0, 0}, []int{4, 1, 0, 0}},
		// Streets that both drive, but not as often.
		{same, 3, 0, span(35, 125), []int{4, 1, 0, 0}, []int{4, 1, 0, 9}},
		{same, 0, 3, span(-125, -35), []int{4, 1, 0, 9}, []int{4, 1, 0, 0}},
		{same, 4, 2, span(0, 0), []int{4, 1, 0, 0}, []int{4, 1, 0, 0}},
		{hardest(), 1, 0, span(60000, 660000), []int{0, 0, 0, 0}, []int{0, 0, 100, 100}},
		{hardest(), 0, 1, span(-660000, -60000), []int{0, 0, 100, 100}, []int{0, 0, 0, 0}},
	} {
		want := api.CrApart{Harder: c.harder, Least: c.least, Great: c.great}
		if apart, e := course.Apart(c.c, c.a, c.b); !reflect.DeepEqual(apart, want) || e != api.OK {
			t.Errorf("%d: Apart of %d and %d = %v, %d, not %v", i, c.a, c.b, apart, e, want)
		}
	}
}

// TestDiffer checks P9.3.
func TestDiffer(t *testing.T) {
	more := example()
	more.Routes = append(more.Routes, loops(2), by(2, 3, 0, -1), by(0, 1, -2, -1))
	for i, c := range []struct {
		a, b int
		want []int
	}{
		{0, 1, []int{0, 1, 2}},
		{1, 0, []int{0, 1, 2}},
		{0, 2, []int{0}},
		{2, 0, []int{0}},
		{1, 2, []int{1, 2}},
		{0, 0, nil},
		{1, 1, nil},
		// How often they drive a street makes no difference.
		{0, 3, nil},
		{3, 0, nil},
		{3, 2, []int{0}},
		{4, 2, nil},
		// One does not drive any of the streets of the other one.
		{0, 5, []int{0, 1, 2, 3}},
		{5, 1, []int{3}},
	} {
		if streets, e := course.Differ(more, c.a, c.b); !slices.Equal(streets, c.want) || e != api.OK {
			t.Errorf("%d: Differ of %d and %d = %v, %d, not %v", i, c.a, c.b, streets, e, c.want)
		}
	}
}

// TestNoRoute checks that Apart and Differ return ErrNone, whichever route is none.
func TestNoRoute(t *testing.T) {
	for _, no := range []int{-1, 3, 10, math.MaxInt, math.MinInt} {
		for _, pair := range [][2]int{{no, 0}, {0, no}, {no, no}} {
			if apart, e := course.Apart(example(), pair[0], pair[1]); !reflect.ValueOf(apart).IsZero() || e != api.ErrNone {
				t.Errorf("Apart of %v = %v, %d", pair, apart, e)
			}
			if streets, e := course.Differ(example(), pair[0], pair[1]); streets != nil || e != api.ErrNone {
				t.Errorf("Differ of %v = %v, %d", pair, streets, e)
			}
		}
	}
}

package course_test

import (
	"math"
	"reflect"
	"testing"

	"bitepoint/api"
	"bitepoint/course"
)

// wish is a wish.
func wish(many, differ, show, time int) api.CrWish {
	return api.CrWish{Many: many, Differ: differ, Show: show, Time: time}
}

// choice is a choice.
func choice(bound int, routes ...int) api.CrChoice {
	return api.CrChoice{Routes: routes, Bound: bound}
}

// none is what Doubt returns, if there are no two routes.
func none() api.CrDoubt { return api.CrDoubt{A: -1, B: -1} }

// with is the example with more routes.
func with(routes ...[]api.StStep) api.CrCourse {
	c := example()
	c.Routes = append(c.Routes, routes...)
	return c
}

// more is the example with a route over the hill and back, and two that drive
// the same streets as the routes 0 and 2.
func more() api.CrCourse { return with(by(0, 1, -2, -1), loops(1), by(2, 3, 0, -1)) }

// TestPick checks P9.4.
func TestPick(t *testing.T) {
	empty, twice := example(), example()
	empty.Routes = nil
	twice.Routes = [][]api.StStep{by(0, -1), by(2, 3), by(2, 3), by(2, 3)}
	for i, c := range []struct {
		c    api.CrCourse
		w    api.CrWish
		want api.CrChoice
		e    api.Errno
	}{
		{example(), wish(2, 0, 0, am), choice(11, 0, 1), api.OK},
		{example(), wish(2, 0, bend, am), choice(23, 1, 2), api.OK},
		{example(), wish(3, 0, 0, am), choice(30, 0, 1, 2), api.OK},
		{example(), wish(2, 4, 0, am), api.CrChoice{}, api.ErrDown},
		// One route is apart from no other one: the first one that shows all.
		{example(), wish(1, 0, 0, am), choice(0, 0), api.OK},
		{example(), wish(1, 40, 0, am), choice(0, 0), api.OK},
		{example(), wish(1, 0, bend, am), choice(0, 1), api.OK},
		{example(), wish(1, 0, tram|bend, pm), choice(0, 1), api.OK},
		// What is shown, and when.
		{more(), wish(1, 0, bend, pm), choice(0, 1), api.OK},
		{with(by(0, -1)), wish(4, 0, tram, am), api.CrChoice{}, api.ErrDown},
		{with(by(0, -1)), wish(3, 0, tram, am), choice(30, 0, 1, 2), api.OK},
		{with(by(0, 1, -2, -1)), wish(4, 0, tram, am), api.CrChoice{}, api.ErrDown},
		{with(by(0, 1, -2, -1)), wish(4, 0, tram, pm), choice(81, 0, 1, 2, 3), api.OK},
		{with(by(0, 1, -2, -1)), wish(3, 0, tram|bend, pm), choice(81, 1, 2, 3), api.OK},
		{with(by(0, 1, -2, -1)), wish(3, 0, tram|bend, am), api.CrChoice{}, api.ErrDown},
		// In how many streets each two differ.
		{example(), wish(2, 1, 0, am), choice(11, 0, 1), api.OK},
		{example(), wish(2, 3, 0, am), choice(11, 0, 1), api.OK},
		{example(), wish(2, 2, bend, am), choice(23, 1, 2), api.OK},
		{example(), wish(2, 3, bend, am), api.CrChoice{}, api.ErrDown},
		{example(), wish(3, 1, 0, am), choice(30, 0, 1, 2), api.OK},
		{example(), wish(3, 2, 0, am), api.CrChoice{}, api.ErrDown},
		{example(), wish(2, 40, 0, am), api.CrChoice{}, api.ErrDown},
		// Of several choices with the least bound the first one.
		{twice, wish(2, 0, 0, am), choice(0, 1, 2), api.OK},
		{twice, wish(3, 0, 0, am), choice(0, 1, 2, 3), api.OK},
		{twice, wish(2, 1, 0, am), choice(105, 0, 1), api.OK},
		{twice, wish(4, 0, 0, am), choice(105, 0, 1, 2, 3), api.OK},
		{more(), wish(2, 0, 0, am), choice(0, 0, 4), api.OK},
		{more(), wish(2, 0, bend, am), choice(0, 2, 5), api.OK},
		{more(), wish(3, 0, 0, am), choice(11, 0, 1, 4), api.OK},
		// More than there are.
		{example(), wish(4, 0, 0, am), api.CrChoice{}, api.ErrDown},
		{example(), wish(10, 0, 0, am), api.CrChoice{}, api.ErrDown},
		{empty, wish(1, 0, 0, am), api.CrChoice{}, api.ErrDown},
		{still(), wish(1, 0, 0, 0), api.CrChoice{}, api.ErrDown},
		{with(by(0, -1), by(0, -1), by(0, -1), by(0, -1), by(0, -1), by(0, -1), by(0, -1)), wish(10, 0, 0, am), choice(125, 0, 1, 2, 3, 4, 5, 6, 7, 8, 9), api.OK},
		{hardest(), wish(2, 3, 0, am), choice(660000, 0, 1), api.OK},
		// A number that is not as stated.
		{example(), wish(0, 0, 0, am), api.CrChoice{}, api.ErrRange},
		{example(), wish(-1, 0, 0, am), api.CrChoice{}, api.ErrRange},
		{example(), wish(11, 0, 0, am), api.CrChoice{}, api.ErrRange},
		{example(), wish(math.MaxInt, 0, 0, am), api.CrChoice{}, api.ErrRange},
		{example(), wish(2, -1, 0, am), api.CrChoice{}, api.ErrRange},
		{example(), wish(2, 41, 0, am), api.CrChoice{}, api.ErrRange},
		{example(), wish(2, math.MinInt, 0, am), api.CrChoice{}, api.ErrRange},
		{example(), wish(2, 0, -1, am), api.CrChoice{}, api.ErrRange},
		{example(), wish(2, 0, 4, am), api.CrChoice{}, api.ErrRange},
		{example(), wish(2, 0, math.MaxInt, am), api.CrChoice{}, api.ErrRange},
		{still(), wish(1, 0, 1, 0), api.CrChoice{}, api.ErrRange},
		{example(), wish(0, 0, 0, 2), api.CrChoice{}, api.ErrRange},
		{example(), wish(2, 41, 0, -1), api.CrChoice{}, api.ErrRange},
		{example(), wish(2, 0, 4, 2), api.CrChoice{}, api.ErrRange},
		{empty, wish(2, 0, 4, am), api.CrChoice{}, api.ErrRange},
		// No time of the town.
		{example(), wish(2, 0, 0, 2), api.CrChoice{}, api.ErrNone},
		{example(), wish(2, 0, 0, -1), api.CrChoice{}, api.ErrNone},
		{example(), wish(2, 4, 0, 2), api.CrChoice{}, api.ErrNone},
		{empty, wish(2, 0, 0, math.MaxInt), api.CrChoice{}, api.ErrNone},
		{empty, wish(2, 0, 0, math.MinInt), api.CrChoice{}, api.ErrNone},
		{still(), wish(1, 0, 0, 1), api.CrChoice{}, api.ErrNone},
	} {
		if is, e := course.Pick(c.c, c.w); !reflect.DeepEqual(is, c.want) || e != c.e {
			t.Errorf("%d: Pick of %v = %v, %d, not %v, %d", i, c.w, is, e, c.want, c.e)
		}
	}
}

// TestPickComesToBetterOnesLate checks P9.4 for choices of which those behind
// the first ones are better, and for one that begins better than it ends.
func TestPickComesToBetterOnesLate(t *testing.T) {
	c := example()
	for at := range c.Hard {
		c.Hard[at] = api.CrHard{Base: []int{1, 10, 100, 3}[at]}
	}
	// The routes 0 to 4 are as hard as 103, 14, 105, 22, 2.
	c.Routes = append(c.Routes, by(0, 1, -2, -1), by(0, -1))
	for i, one := range []struct {
		w    api.CrWish
		want api.CrChoice
	}{
		{wish(2, 0, 0, am), choice(2, 0, 2)},
		{wish(3, 0, 0, am), choice(20, 1, 3, 4)},
		{wish(4, 0, 0, am), choice(91, 0, 1, 2, 3)},
		{wish(5, 0, 0, am), choice(103, 0, 1, 2, 3, 4)},
		{wish(2, 2, 0, am), choice(12, 1, 4)},
		{wish(2, 3, 0, am), choice(81, 0, 3)},
		{wish(2, 4, 0, am), choice(81, 0, 3)},
	} {
		if is, e := course.Pick(c, one.w); !reflect.DeepEqual(is, one.want) || e != api.OK {
			t.Errorf("%d: Pick of %v = %v, %d, not %v", i, one.w, is, e, one.want)
		}
	}
}

// TestDoubt checks P9.5.
func TestDoubt(t *testing.T) {
	even := example()
	// The route 1 drives street 1 in place of 0 back and 2 of the route 2: 20 to 30 against 20 to 30.
	even.Hard[1] = api.CrHard{Base: 20, Per: 2, Traffic: span(0, 5)}
	even.Hard[0], even.Hard[2] = api.CrHard{Base: 10, Per: 2, Traffic: span(0, 5)}, api.CrHard{Base: 10}
	doubt := func(a, b int, traffic ...int) api.CrDoubt { return api.CrDoubt{A: a, B: b, Traffic: traffic} }
	for i, c := range []struct {
		c      api.CrCourse
		routes []int
		bound  int
		want   api.CrDoubt
		e      api.Errno
	}{
		{example(), []int{0, 1}, 11, none(), api.OK},
		{example(), []int{0, 1}, 10, doubt(0, 1, 5, 3, 0, 0), api.OK},
		{example(), []int{1, 0}, 10, doubt(1, 0, 5, 3, 0, 0), api.OK},
		{example(), []int{0, 1, 2}, 20, doubt(0, 2, 5, 1, 0, 0), api.OK},
		{example(), []int{0, 1, 2}, 30, none(), api.OK},
		{example(), []int{0, 1, 2}, 29, doubt(0, 2, 5, 1, 0, 0), api.OK},
		{example(), []int{1, 0, 2}, 22, doubt(1, 2, 5, 1, 0, 0), api.OK},
		{example(), []int{1, 0, 2}, 23, doubt(0, 2, 5, 1, 0, 0), api.OK},
		{example(), []int{2, 0, 1}, 20, doubt(2, 0, 5, 1, 0, 0), api.OK},
		{example(), []int{2, 1, 0}, 20, doubt(2, 1, 5, 1, 0, 0), api.OK},
		{example(), []int{0, 1, 2}, 0, doubt(0, 1, 5, 3, 0, 0), api.OK},
		{example(), []int{1, 2}, 0, doubt(1, 2, 5, 1, 0, 0), api.OK},
		{example(), []int{2, 1}, 22, doubt(2, 1, 5, 1, 0, 0), api.OK},
		// The first one of two that are as far apart either way: A is least hard.
		{even, []int{1, 2}, 9, doubt(1, 2, 5, 0, 0, 0), api.OK},
		{even, []int{2, 1}, 9, doubt(2, 1, 0, 5, 0, 0), api.OK},
		{even, []int{2, 1}, 10, none(), api.OK},
		// A route is apart from itself by nothing, and from one that drives the same streets.
		{example(), []int{1, 1, 1}, 0, none(), api.OK},
		{example(), []int{1, 1, 0}, 2, doubt(1, 0, 5, 3, 0, 0), api.OK},
		{more(), []int{2, 5, 0, 4}, 0, doubt(2, 0, 5, 1, 0, 0), api.OK},
		{more(), []int{5, 2}, 0, none(), api.OK},
		// Fewer than two.
		{example(), nil, 0, none(), api.OK},
		{example(), []int{}, 1000000, none(), api.OK},
		{example(), []int{2}, 0, none(), api.OK},
		{still(), nil, 0, none(), api.OK},
		// The hardest routes.
		{hardest(), []int{0, 1}, 659999, doubt(0, 1, 0, 0, 100, 100), api.OK},
		{hardest(), []int{0, 1}, 660000, none(), api.OK},
		{hardest(), []int{0, 1}, 1000000, none(), api.OK},
		// Too many routes, before any one that is none.
		{example(), make([]int, 10), 0, none(), api.OK},
		{example(), make([]int, 11), 0, api.CrDoubt{}, api.ErrLong},
		{example(), []int{0, 0, 0, 0, 0, 0, 0, 0, 0, 0, 9}, -1, api.CrDoubt{}, api.ErrLong},
		// No route, before any bound that is out of its range.
		{example(), []int{3}, 0, api.CrDoubt{}, api.ErrNone},
		{example(), []int{0, 2, -1}, -1, api.CrDoubt{}, api.ErrNone},
		{example(), []int{0, math.MaxInt}, 1000001, api.CrDoubt{}, api.ErrNone},
		{example(), []int{math.MinInt, 1}, 0, api.CrDoubt{}, api.ErrNone},
		{still(), []int{0}, 0, api.CrDoubt{}, api.ErrNone},
		// A bound that is out of its range.
		{example(), []int{0, 1}, -1, api.CrDoubt{}, api.ErrRange},
		{example(), []int{0, 1}, 1000001, api.CrDoubt{}, api.ErrRange},
		{example(), nil, math.MaxInt, api.CrDoubt{}, api.ErrRange},
		{still(), nil, math.MinInt, api.CrDoubt{}, api.ErrRange},
	} {
		if is, e := course.Doubt(c.c, c.routes, c.bound); !reflect.DeepEqual(is, c.want) || e != c.e {
			t.Errorf("%d: Doubt of %v and %d = %v, %d, not %v, %d", i, c.routes, c.bound, is, e, c.want, c.e)
		}
	}
}

package course_test

import (
	"math"
	"math/rand"
	"reflect"
	"slices"
	"testing"

	"bitepoint/api"
	"bitepoint/course"
)

// wild are numbers that are at the ends of ranges, or far beyond them.
var wild = []int{0, 1, -1, 2, 3, 4, 9, 10, 11, 39, 40, 41, 59, 60, 61, 63, 64, 100, 101, 1000, 1001, 1000000, 1000001, math.MinInt, math.MinInt + 1, math.MaxInt, math.MaxInt - 1, 1 << 32, -1 << 31}

// wildNumber is one of them.
func wildNumber(r *rand.Rand) int { return wild[r.Intn(len(wild))] }

// arguments are what the functions are called with.
type arguments struct {
	c                  api.CrCourse
	route, a, b, bound int
	traffic, routes    []int
	w                  api.CrWish
}

// wildArguments are arguments that are often not valid.
func wildArguments(r *rand.Rand) arguments {
	a := arguments{c: randomCourse(r, []size{small, middle}[r.Intn(2)])}
	for len(a.c.Routes) < 2 {
		a.c = randomCourse(r, middle)
	}
	many := len(a.c.Routes)
	a.route, a.a, a.b, a.bound, a.traffic, a.routes, a.w = r.Intn(many), r.Intn(many), r.Intn(many), r.Intn(2000), randomTraffic(r, a.c), r.Perm(many), randomWish(r, a.c)
	for _, n := range []*int{&a.route, &a.a, &a.b, &a.bound, &a.w.Many, &a.w.Differ, &a.w.Show, &a.w.Time, &a.traffic[0], &a.routes[0]} {
		if r.Intn(12) == 0 {
			*n = wildNumber(r)
		}
	}
	for _, list := range []*[]int{&a.traffic, &a.routes} {
		switch r.Intn(16) {
		case 0:
			*list = nil
		case 1:
			*list = slices.Repeat(*list, 1+r.Intn(8))
		case 2:
			*list = (*list)[1:]
		}
	}
	if r.Intn(3) == 0 {
		a.c = spoiled(r, a.c)
	}
	return a
}

// spoiled is a course with at least one route that is often not valid.
func spoiled(r *rand.Rand, c api.CrCourse) api.CrCourse {
	at, route := r.Intn(len(c.Hard)), r.Intn(len(c.Routes))
	h, s, step := &c.Hard[at], &c.Town.Streets[at], &c.Routes[route][r.Intn(len(c.Routes[route]))]
	numbers := []*int{&c.Centre, &h.Base, &h.Per, &h.Traffic.Lo, &h.Traffic.Hi, &s.From, &s.To, &s.Metres, &s.Shows[0], &step.Street}
	switch r.Intn(8) {
	case 0:
		c.Hard = c.Hard[1:]
	case 1:
		c.Hard = append(c.Hard, *h)
	case 2:
		c.Routes = slices.Repeat(c.Routes, 1+r.Intn(6))
	case 3:
		c.Routes[route] = c.Routes[route][1:]
	case 4:
		c.Routes[route] = slices.Repeat(c.Routes[route], r.Intn(100))
	case 5:
		c.Town.Times[0], step.Back = "", !step.Back
	default:
		*numbers[r.Intn(len(numbers))] = wildNumber(r)
	}
	return c
}

// clone is a copy of arguments, without shared memory.
func (a arguments) clone() arguments {
	a.c, a.traffic, a.routes = cloneCourse(a.c), slices.Clone(a.traffic), slices.Clone(a.routes)
	return a
}

// result is what a function returns, and its error.
type result struct {
	value any
	e     api.Errno
}

// results are the results of all functions but Check, whose indices are not
// zero with an error.
func (a arguments) results() []result {
	hard, e1 := course.Hard(a.c, a.route)
	at, e2 := course.At(a.c, a.route, a.traffic)
	apart, e3 := course.Apart(a.c, a.a, a.b)
	streets, e4 := course.Differ(a.c, a.a, a.b)
	choice, e5 := course.Pick(a.c, a.w)
	doubt, e6 := course.Doubt(a.c, a.routes, a.bound)
	return []result{{hard, e1}, {at, e2}, {apart, e3}, {streets, e4}, {choice, e5}, {doubt, e6}}
}

// errorsOf are the errors that each of these functions returns of its own.
var errorsOf = [][]api.Errno{
	{api.ErrNone},
	{api.ErrNone, api.ErrLong, api.ErrRange},
	{api.ErrNone},
	{api.ErrNone},
	{api.ErrRange, api.ErrNone, api.ErrDown},
	{api.ErrLong, api.ErrNone, api.ErrRange},
}

// TestAnyArguments checks P9.13 and P1: all functions accept any arguments, do
// not change them, return the same for the same ones, and nothing with an
// error; with an error of the course, this one.
func TestAnyArguments(t *testing.T) {
	r := rand.New(rand.NewSource(913))
	returned := make([]map[api.Errno]int, len(errorsOf))
	for i := range returned {
		returned[i] = map[api.Errno]int{}
	}
	parts := map[int]int{}
	for range 3000 {
		a := wildArguments(r)
		old := a.clone()
		first := a.results()
		if second := a.results(); !reflect.DeepEqual(first, second) {
			t.Fatalf("%v: %v, then %v", a, first, second)
		}
		part, at, of := course.Check(a.c)
		if !reflect.DeepEqual(a, old) {
			t.Fatalf("arguments have changed: %v, not %v", a, old)
		}
		if of == api.OK && (part != 0 || at != 0) || of != api.OK && (part < 1 || part > 3) {
			t.Fatalf("%v: Check = %d, %d, %d", a, part, at, of)
		}
		parts[part]++
		for i, one := range first {
			if one.e != api.OK && !reflect.ValueOf(one.value).IsZero() {
				t.Fatalf("%v: the function %d returns %v with the error %d", a, i, one.value, one.e)
			}
			if of != api.OK && one.e != of || of == api.OK && one.e != api.OK && !slices.Contains(errorsOf[i], one.e) {
				t.Fatalf("%v: the function %d returns the error %d, and Check %d", a, i, one.e, of)
			}
			if of == api.OK {
				returned[i][one.e]++
			}
		}
	}
	for i, many := range returned {
		for _, e := range append(errorsOf[i], api.OK) {
			if many[e] < 30 {
				t.Errorf("the function %d returns %d only %d times", i, e, many[e])
			}
		}
	}
	for part := range 4 {
		if parts[part] < 30 {
			t.Errorf("Check returns the part %d only %d times", part, parts[part])
		}
	}
}

// spoil overwrites a slice, and all that lies behind it in the same memory.
func spoil(list []int) {
	list = list[:cap(list)]
	for i := range list {
		list[i] = -99
	}
}

// TestResultsAreNewMemory checks P9.13: it overwrites results, and neither
// arguments nor other parts of a result nor further results change.
func TestResultsAreNewMemory(t *testing.T) {
	c, routes := example(), slices.Grow([]int{0, 2}, 8)
	for range 2 {
		apart, e := course.Apart(c, 0, 0)
		if !slices.Equal(apart.Least, []int{0, 1, 0, 0}) || e != api.OK {
			t.Fatalf("Apart = %v, %d", apart, e)
		}
		spoil(apart.Least)
		if !slices.Equal(apart.Great, []int{0, 1, 0, 0}) {
			t.Fatalf("the two traffics of Apart share memory: %v", apart)
		}
		spoil(apart.Great)
		streets, e := course.Differ(c, 0, 1)
		if !slices.Equal(streets, []int{0, 1, 2}) || e != api.OK {
			t.Fatalf("Differ = %v, %d", streets, e)
		}
		spoil(streets)
		choice, e := course.Pick(c, wish(2, 0, 0, am))
		if !slices.Equal(choice.Routes, []int{0, 1}) || e != api.OK {
			t.Fatalf("Pick = %v, %d", choice, e)
		}
		spoil(choice.Routes)
		doubt, e := course.Doubt(c, routes, 20)
		if !slices.Equal(doubt.Traffic, []int{5, 1, 0, 0}) || e != api.OK {
			t.Fatalf("Doubt = %v, %d", doubt, e)
		}
		spoil(doubt.Traffic)
		if !reflect.DeepEqual(c, example()) || !slices.Equal(routes, []int{0, 2}) {
			t.Fatalf("a result shares the memory of an argument: %v, %v", c, routes)
		}
	}
}

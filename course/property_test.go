package course_test

import (
	"math/rand"
	"reflect"
	"slices"
	"testing"

	"bitepoint/api"
	"bitepoint/course"
)

// middle are courses with numbers of any size, but with so few streets that
// many routes meet.
var middle = size{6, 12, 10, 30, 1000, 100, 100}

// hard is what Hard returns for a route.
func hard(t *testing.T, c api.CrCourse, route int) api.Span {
	t.Helper()
	span, e := course.Hard(c, route)
	if e != api.OK {
		t.Fatalf("%v: Hard of %d = %v, %d", c, route, span, e)
	}
	return span
}

// at is what At returns for a route and a traffic.
func at(t *testing.T, c api.CrCourse, route int, traffic []int) int {
	t.Helper()
	is, e := course.At(c, route, traffic)
	if e != api.OK {
		t.Fatalf("%v: At of %d and %v = %d, %d", c, route, traffic, is, e)
	}
	return is
}

// apart is what Apart returns for two routes.
func apart(t *testing.T, c api.CrCourse, a, b int) api.CrApart {
	t.Helper()
	is, e := course.Apart(c, a, b)
	if e != api.OK {
		t.Fatalf("%v: Apart of %d and %d = %v, %d", c, a, b, is, e)
	}
	return is
}

// far is by how much two routes are apart at most.
func far(t *testing.T, c api.CrCourse, a, b int) int {
	t.Helper()
	harder := apart(t, c, a, b).Harder
	return max(-harder.Lo, harder.Hi)
}

// differ is in how many streets two routes differ, as Differ says.
func differ(t *testing.T, c api.CrCourse, a, b int) int {
	t.Helper()
	streets, e := course.Differ(c, a, b)
	if e != api.OK {
		t.Fatalf("%v: Differ of %d and %d = %v, %d", c, a, b, streets, e)
	}
	return len(streets)
}

// table is what is told of each two routes of a course.
func table(t *testing.T, c api.CrCourse, tell func(t *testing.T, c api.CrCourse, a, b int) int) [][]int {
	t.Helper()
	all := make([][]int, len(c.Routes))
	for a := range all {
		for b := range all {
			all[a] = append(all[a], tell(t, c, a, b))
		}
	}
	return all
}

// pick is what Pick returns, or no choice, if no routes meet the wish.
func pick(t *testing.T, c api.CrCourse, w api.CrWish) (api.CrChoice, bool) {
	t.Helper()
	is, e := course.Pick(c, w)
	if e != api.OK && e != api.ErrDown {
		t.Fatalf("%v: Pick of %v = %v, %d", c, w, is, e)
	}
	return is, e == api.OK
}

// doubt is what Doubt returns.
func doubt(t *testing.T, c api.CrCourse, routes []int, bound int) api.CrDoubt {
	t.Helper()
	is, e := course.Doubt(c, routes, bound)
	if e != api.OK {
		t.Fatalf("%v: Doubt of %v and %d = %v, %d", c, routes, bound, is, e)
	}
	return is
}

// randomTraffic is a traffic, mostly with some streets at an end.
func randomTraffic(r *rand.Rand, c api.CrCourse) []int {
	var traffic []int
	ends := r.Intn(4)
	for _, h := range c.Hard {
		n := h.Traffic.Lo + r.Intn(h.Traffic.Hi-h.Traffic.Lo+1)
		if r.Intn(4) < ends {
			n = []int{h.Traffic.Lo, h.Traffic.Hi}[r.Intn(2)]
		}
		traffic = append(traffic, n)
	}
	return traffic
}

// abs is a number without its sign.
func abs(n int) int { return max(n, -n) }

// TestEquallyHard checks P9.6.
func TestEquallyHard(t *testing.T) {
	r := rand.New(rand.NewSource(96))
	some := 0
	for range 500 {
		c := randomCourse(r, []size{small, middle, great}[r.Intn(3)])
		is, found := pick(t, c, randomWish(r, c))
		if !found {
			continue
		}
		for range 10 {
			traffic := randomTraffic(r, c)
			var all []int
			for _, route := range is.Routes {
				all = append(all, at(t, c, route, traffic))
			}
			if by := slices.Max(all) - slices.Min(all); by > is.Bound {
				t.Fatalf("%v: at %v two routes of %v are apart by %d", c, traffic, is, by)
			}
		}
		if len(is.Routes) < 2 {
			if is.Bound != 0 {
				t.Fatalf("%v: Pick = %v", c, is)
			}
			continue
		}
		reached := false
		for _, a := range is.Routes {
			for _, b := range is.Routes {
				if by := apart(t, c, a, b); a != b && by.Harder.Hi == is.Bound {
					reached = reached || at(t, c, a, by.Great)-at(t, c, b, by.Great) == is.Bound
				}
			}
		}
		if !reached {
			t.Fatalf("%v: no two routes of %v are as far apart", c, is)
		}
		some += min(1, is.Bound)
	}
	if some < 100 {
		t.Errorf("only %d choices have a bound above 0", some)
	}
}

// TestLeastBound checks P9.7.
func TestLeastBound(t *testing.T) {
	r := rand.New(rand.NewSource(97))
	some, down, several := 0, 0, 0
	for range 400 {
		c := randomCourse(r, []size{small, middle, great}[r.Intn(3)])
		w := randomWish(r, c)
		is, found := pick(t, c, w)
		farApart, streets := table(t, c, far), table(t, c, differ)
		meeting := 0
		for _, routes := range listsOf(len(c.Routes)) {
			meet, bound := len(routes) == w.Many, 0
			for i, a := range routes {
				meet = meet && shows(c, a, w.Show, w.Time)
				for _, b := range routes[:i] {
					meet = meet && streets[a][b] >= w.Differ
					bound = max(bound, farApart[a][b])
				}
			}
			if slices.Equal(routes, is.Routes) && found && (!meet || bound != is.Bound) {
				t.Fatalf("%v: Pick of %v = %v: %t, %d", c, w, is, meet, bound)
			}
			if meet && (!found || bound < is.Bound) {
				t.Fatalf("%v: Pick of %v = %v, but %v are apart by %d", c, w, is, routes, bound)
			}
			if meet {
				meeting++
			}
		}
		if found != (meeting > 0) {
			t.Fatalf("%v: Pick of %v = %v, %t, and %d meet it", c, w, is, found, meeting)
		}
		some += min(1, meeting)
		several += min(1, meeting/10)
		down += 1 - min(1, meeting)
	}
	if some < 100 || several < 30 || down < 50 {
		t.Errorf("only %d wishes are met, %d in many ways, and %d are not", some, several, down)
	}
}

// TestHowHard checks P9.8.
func TestHowHard(t *testing.T) {
	r := rand.New(rand.NewSource(98))
	some := 0
	for range 150 {
		c := randomCourse(r, []size{small, middle, great}[r.Intn(3)])
		var lo, hi []int
		for _, h := range c.Hard {
			lo, hi = append(lo, h.Traffic.Lo), append(hi, h.Traffic.Hi)
		}
		for a := range c.Routes {
			is := hard(t, c, a)
			if at(t, c, a, lo) != is.Lo || at(t, c, a, hi) != is.Hi {
				t.Fatalf("%v: Hard of %d = %v, and is not reached", c, a, is)
			}
			for b := range c.Routes {
				by := apart(t, c, a, b)
				if at(t, c, a, by.Least)-at(t, c, b, by.Least) != by.Harder.Lo || at(t, c, a, by.Great)-at(t, c, b, by.Great) != by.Harder.Hi {
					t.Fatalf("%v: Apart of %d and %d = %v, and is not reached", c, a, b, by)
				}
				traffic := randomTraffic(r, c)
				hardA, hardB := at(t, c, a, traffic), at(t, c, b, traffic)
				if hardA < is.Lo || hardA > is.Hi {
					t.Fatalf("%v: Hard of %d = %v, and at %v it is %d", c, a, is, traffic, hardA)
				}
				if hardA-hardB < by.Harder.Lo || hardA-hardB > by.Harder.Hi {
					t.Fatalf("%v: Apart of %d and %d = %v, and at %v they are %d and %d", c, a, b, by, traffic, hardA, hardB)
				}
				some++
			}
		}
	}
	if some < 1000 {
		t.Errorf("only %d pairs of routes", some)
	}
}

// TestDoubts checks P9.9.
func TestDoubts(t *testing.T) {
	r := rand.New(rand.NewSource(99))
	some, nothing := 0, 0
	for range 400 {
		c := randomCourse(r, []size{small, middle, great}[r.Intn(3)])
		routes := r.Perm(len(c.Routes))
		widest := slices.Max(append(slices.Concat(table(t, c, far)...), 0))
		for _, bound := range []int{0, widest - 1, widest, r.Intn(widest + 1), 1000000} {
			if bound < 0 {
				continue
			}
			is := doubt(t, c, routes, bound)
			if bound < widest {
				some++
				if by := abs(at(t, c, is.A, is.Traffic) - at(t, c, is.B, is.Traffic)); by <= bound || by != far(t, c, is.A, is.B) {
					t.Fatalf("%v: Doubt of %v and %d = %v, where they are apart by %d", c, routes, bound, is, by)
				}
				if slices.Index(routes, is.A) < 0 || slices.Index(routes, is.A) >= slices.Index(routes, is.B) {
					t.Fatalf("%v: Doubt of %v and %d = %v", c, routes, bound, is)
				}
				continue
			}
			nothing++
			if !reflect.DeepEqual(is, none()) {
				t.Fatalf("%v: Doubt of %v and %d = %v, but they are apart by %d", c, routes, bound, is, widest)
			}
		}
	}
	if some < 300 || nothing < 300 {
		t.Errorf("only %d doubts, and %d are none", some, nothing)
	}
}

// times is how often a route drives a street.
func times(c api.CrCourse, route, street int) int {
	many := 0
	for _, step := range c.Routes[route] {
		if step.Street == street {
			many++
		}
	}
	return many
}

// TestWhatBothDrive checks P9.10.
func TestWhatBothDrive(t *testing.T) {
	r := rand.New(rand.NewSource(910))
	driven := 0
	for range 150 {
		c := randomCourse(r, []size{small, middle, great}[r.Intn(3)])
		by := table(t, c, far)
		for a := range c.Routes {
			for b := range c.Routes {
				is, back := apart(t, c, a, b), apart(t, c, b, a)
				if is.Harder != span(-back.Harder.Hi, -back.Harder.Lo) || !slices.Equal(is.Least, back.Great) || !slices.Equal(is.Great, back.Least) {
					t.Fatalf("%v: Apart of %d and %d = %v, and the other way round %v", c, a, b, is, back)
				}
				other := cloneCourse(c)
				for street := range c.Hard {
					if times(c, a, street) != times(c, b, street) {
						continue
					}
					lo := r.Intn(101)
					other.Hard[street] = api.CrHard{Base: r.Intn(1001), Per: r.Intn(101), Traffic: span(lo, lo+r.Intn(101-lo))}
					if a != b {
						driven += min(1, times(c, a, street))
					}
				}
				if now := apart(t, other, a, b).Harder; now != is.Harder {
					t.Fatalf("%v: Apart of %d and %d = %v, and with what both drive as %v %v", c, a, b, is.Harder, other.Hard, now)
				}
				for third := range c.Routes {
					if by[a][b] > by[a][third]+by[third][b] {
						t.Fatalf("%v: %d and %d are farther apart than by way of %d", c, a, b, third)
					}
				}
			}
		}
	}
	if driven < 500 {
		t.Errorf("only %d streets are driven by both", driven)
	}
}

// wider is a course with wider Traffic.
func wider(r *rand.Rand, c api.CrCourse) api.CrCourse {
	c = cloneCourse(c)
	for at := range c.Hard {
		traffic := &c.Hard[at].Traffic
		traffic.Lo -= r.Intn(traffic.Lo + 1)
		traffic.Hi += r.Intn(101 - traffic.Hi)
	}
	return c
}

// TestLessIsKnown checks P9.11.
func TestLessIsKnown(t *testing.T) {
	r := rand.New(rand.NewSource(911))
	grown, better, fewer := 0, 0, 0
	for range 600 {
		c := randomCourse(r, []size{small, middle, great}[r.Intn(3)])
		less := wider(r, c)
		for a := range c.Routes {
			b := r.Intn(len(c.Routes))
			for _, pair := range [][2]api.Span{{hard(t, c, a), hard(t, less, a)}, {apart(t, c, a, b).Harder, apart(t, less, a, b).Harder}} {
				if pair[1].Lo > pair[0].Lo || pair[1].Hi < pair[0].Hi {
					t.Fatalf("%v: %v, and with Traffic as in %v %v", c, pair[0], less.Hard, pair[1])
				}
			}
		}
		w := randomWish(r, c)
		is, found := pick(t, c, w)
		if one, with := pick(t, less, w); with != found || one.Bound < is.Bound {
			t.Fatalf("%v: Pick of %v = %v, and with Traffic as in %v %v", c, w, is, less.Hard, one)
		} else if with {
			grown += min(1, one.Bound-is.Bound)
		}
		if route := randomRoute(r, c, 20); found && route != nil && len(c.Routes) < 10 {
			longer := cloneCourse(c)
			longer.Routes = slices.Insert(longer.Routes, r.Intn(len(c.Routes)+1), route)
			one, with := pick(t, longer, w)
			if !with || one.Bound > is.Bound {
				t.Fatalf("%v: Pick of %v = %v, and with the route %v %v, %t", c, w, is, route, one, with)
			}
			better += min(1, is.Bound-one.Bound)
		}
		if w.Many--; found && w.Many > 0 {
			one, with := pick(t, c, w)
			if !with || one.Bound > is.Bound {
				t.Fatalf("%v: Pick of %v = %v, and of one route more %v", c, w, one, is)
			}
			fewer += min(1, is.Bound-one.Bound)
		}
	}
	if grown < 30 || better < 10 || fewer < 30 {
		t.Errorf("only %d bounds are greater with wider Traffic, %d smaller with a route more, and %d with fewer routes", grown, better, fewer)
	}
}

// TestTheOtherWay checks P9.12.
func TestTheOtherWay(t *testing.T) {
	r := rand.New(rand.NewSource(912))
	some := 0
	for range 400 {
		c := randomCourse(r, []size{small, middle, great}[r.Intn(3)])
		for a := range c.Routes {
			other := cloneCourse(c)
			slices.Reverse(other.Routes[a])
			both := true
			for i := range other.Routes[a] {
				step := &other.Routes[a][i]
				step.Back = !step.Back
				both = both && c.Town.Streets[step.Street].Both
			}
			if !both {
				continue
			}
			some++
			if one, two := hard(t, c, a), hard(t, other, a); one != two {
				t.Fatalf("%v: Hard of %d = %v, and of the way back %v", c, a, one, two)
			}
			traffic := randomTraffic(r, c)
			if one, two := at(t, c, a, traffic), at(t, other, a, traffic); one != two {
				t.Fatalf("%v: At of %d and %v = %d, and of the way back %d", c, a, traffic, one, two)
			}
			for b := range c.Routes {
				if one, two := apart(t, c, a, b), apart(t, other, a, b); !reflect.DeepEqual(one, two) {
					t.Fatalf("%v: Apart of %d and %d = %v, and of the way back %v", c, a, b, one, two)
				}
			}
			if len(c.Routes) == 10 {
				continue
			}
			// It is apart from the way there by nothing.
			other.Routes = append(other.Routes, c.Routes[a])
			if by := far(t, other, a, len(c.Routes)); by != 0 {
				t.Fatalf("%v: %d is apart from the way back by %d", c, a, by)
			}
		}
	}
	if some < 500 {
		t.Errorf("only %d routes can be driven back", some)
	}
}

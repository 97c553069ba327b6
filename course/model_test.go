package course_test

import (
	"fmt"
	"math/rand"
	"reflect"
	"slices"
	"testing"

	"bitepoint/api"
	"bitepoint/course"
	"bitepoint/street"
)

// size is how great a course is at most.
type size struct {
	places, streets, routes, steps, base, per, traffic int
}

// small are courses all of whose traffic can be tried, with numbers so small
// that many routes are as hard.
var small = size{4, 5, 5, 8, 4, 2, 2}

// great are courses of any size.
var great = size{16, 40, 10, 60, 1000, 100, 100}

// randomTown is a town without an error, of at most such a size. Mostly its
// first streets lead around, so that there are routes.
func randomTown(r *rand.Rand, of size) api.StTown {
	t := api.StTown{Times: []string{"am", "pm"}[:1+r.Intn(2)], Shows: []string{"a", "b", "c"}[:r.Intn(4)]}
	for i := range 2 + r.Intn(of.places-1) {
		t.Places = append(t.Places, fmt.Sprint("p", i))
	}
	one := r.Intn(4)
	ring := r.Intn(4)
	for i := range max(1+r.Intn(of.streets), 1+r.Intn(of.streets)) {
		from, by := i%len(t.Places), 1
		if i >= len(t.Places) || ring == 0 {
			from, by = r.Intn(len(t.Places)), 1+r.Intn(len(t.Places)-1)
		}
		s := api.StStreet{From: from, To: (from + by) % len(t.Places), Metres: 1 + r.Intn(9), Both: r.Intn(4) >= one}
		for range t.Times {
			shows := 0
			if r.Intn(2) == 0 {
				shows = r.Intn(1 << len(t.Shows))
			}
			s.Shows = append(s.Shows, shows)
		}
		t.Streets = append(t.Streets, s)
	}
	return t
}

// stepsFrom are all steps that begin at a place, and where each one ends.
func stepsFrom(t api.StTown, place int) (steps []api.StStep, ends []int) {
	for at, s := range t.Streets {
		if s.From == place {
			steps, ends = append(steps, api.StStep{Street: at}), append(ends, s.To)
		}
		if s.To == place && s.Both {
			steps, ends = append(steps, api.StStep{Street: at, Back: true}), append(ends, s.From)
		}
	}
	return steps, ends
}

// randomRoute is a route with at most so many steps: some steps, and a way back
// to the centre. It is nil if there is no way back, or the way is too long.
func randomRoute(r *rand.Rand, c api.CrCourse, most int) []api.StStep {
	var route []api.StStep
	place := c.Centre
	for range 1 + r.Intn(most) {
		steps, ends := stepsFrom(c.Town, place)
		if len(steps) == 0 {
			return nil
		}
		i := r.Intn(len(steps))
		route, place = append(route, steps[i]), ends[i]
	}
	back, e := street.Find(c.Town, api.StTask{From: place, To: c.Centre})
	if route = append(route, back.Steps...); e != api.OK || len(route) > most {
		return nil
	}
	return route
}

// randomCourse is a course without an error, of at most such a size. Some of
// its routes drive what other ones drive, in another order or more often.
func randomCourse(r *rand.Rand, of size) api.CrCourse {
	c := api.CrCourse{Town: randomTown(r, of)}
	c.Centre = r.Intn(len(c.Town.Places))
	for range c.Town.Streets {
		lo := r.Intn(of.traffic + 1)
		c.Hard = append(c.Hard, api.CrHard{Base: r.Intn(of.base + 1), Per: r.Intn(of.per + 1), Traffic: span(lo, lo+r.Intn(of.traffic+1-lo))})
	}
	many := max(r.Intn(of.routes+1), r.Intn(of.routes+1))
	for range 6 * of.routes {
		route := randomRoute(r, c, of.steps)
		if len(c.Routes) > 0 && r.Intn(4) == 0 {
			one, other := c.Routes[r.Intn(len(c.Routes))], c.Routes[r.Intn(len(c.Routes))]
			if route = slices.Concat(one, other); len(route) > of.steps {
				route = slices.Clone(one)
			}
		}
		if route != nil && len(c.Routes) < many {
			c.Routes = append(c.Routes, route)
		}
	}
	return c
}

// randomWish is a wish in a course.
func randomWish(r *rand.Rand, c api.CrCourse) api.CrWish {
	w := wish(1+r.Intn(min(10, len(c.Routes)+1)), r.Intn(4), 0, r.Intn(len(c.Town.Times)))
	if r.Intn(2) == 0 {
		w.Show = r.Intn(1 << len(c.Town.Shows))
	}
	if r.Intn(2) == 0 {
		w.Differ = 0
	}
	return w
}

// cloneCourse is a copy of a course, without shared memory.
func cloneCourse(c api.CrCourse) api.CrCourse {
	t := &c.Town
	t.Places, t.Shows, t.Times, t.Streets = slices.Clone(t.Places), slices.Clone(t.Shows), slices.Clone(t.Times), slices.Clone(t.Streets)
	for i := range t.Streets {
		t.Streets[i].Shows = slices.Clone(t.Streets[i].Shows)
	}
	c.Hard, c.Routes = slices.Clone(c.Hard), slices.Clone(c.Routes)
	for i := range c.Routes {
		c.Routes[i] = slices.Clone(c.Routes[i])
	}
	return c
}

// allTraffic is each traffic that there can be, in the order of the numbers.
func allTraffic(c api.CrCourse) [][]int {
	all := [][]int{nil}
	for _, h := range c.Hard {
		var longer [][]int
		for _, traffic := range all {
			for n := h.Traffic.Lo; n <= h.Traffic.Hi; n++ {
				longer = append(longer, append(slices.Clone(traffic), n))
			}
		}
		all = longer
	}
	return all
}

// hardAt is how hard a route is at a traffic, step by step.
func hardAt(c api.CrCourse, route int, traffic []int) int {
	hard := 0
	for _, step := range c.Routes[route] {
		hard += c.Hard[step.Street].Base + c.Hard[step.Street].Per*traffic[step.Street]
	}
	return hard
}

// drives reports whether a route drives a street.
func drives(c api.CrCourse, route, at int) bool {
	return slices.ContainsFunc(c.Routes[route], func(step api.StStep) bool { return step.Street == at })
}

// shows reports whether a route shows all of a set at a time.
func shows(c api.CrCourse, route, set, time int) bool {
	shown := 0
	for _, step := range c.Routes[route] {
		shown |= c.Town.Streets[step.Street].Shows[time]
	}
	return shown&set == set
}

// tried is a course, and how hard each of its routes is at each traffic.
type tried struct {
	api.CrCourse
	traffic [][]int
	hard    [][]int
}

// tryAll is a course whose traffic is tried.
func tryAll(c api.CrCourse) tried {
	t := tried{CrCourse: c, traffic: allTraffic(c)}
	for route := range c.Routes {
		var hard []int
		for _, traffic := range t.traffic {
			hard = append(hard, hardAt(c, route, traffic))
		}
		t.hard = append(t.hard, hard)
	}
	return t
}

// apart is by how much a route is harder than another one. The first traffic
// of several has the Lo of each street that makes no difference.
func (t tried) apart(a, b int) api.CrApart {
	var apart api.CrApart
	for i, traffic := range t.traffic {
		by := t.hard[a][i] - t.hard[b][i]
		if i == 0 || by < apart.Harder.Lo {
			apart.Harder.Lo, apart.Least = by, traffic
		}
		if i == 0 || by > apart.Harder.Hi {
			apart.Harder.Hi, apart.Great = by, traffic
		}
	}
	return apart
}

// differ is the streets in which two routes differ.
func (t tried) differ(a, b int) []int {
	var streets []int
	for at := range t.Town.Streets {
		if drives(t.CrCourse, a, at) != drives(t.CrCourse, b, at) {
			streets = append(streets, at)
		}
	}
	return streets
}

// meet reports whether routes meet a wish, and tells their bound.
func (t tried) meet(routes []int, w api.CrWish) (meet bool, bound int) {
	if len(routes) != w.Many {
		return false, 0
	}
	for i, a := range routes {
		if !shows(t.CrCourse, a, w.Show, w.Time) {
			return false, 0
		}
		for _, b := range routes[:i] {
			if len(t.differ(a, b)) < w.Differ {
				return false, 0
			}
			for at := range t.traffic {
				bound = max(bound, t.hard[a][at]-t.hard[b][at], t.hard[b][at]-t.hard[a][at])
			}
		}
	}
	return true, bound
}

// listsOf are all lists of numbers below a number, each ascending, in their
// order.
func listsOf(below int) [][]int {
	var lists [][]int
	for set := range 1 << below {
		var list []int
		for n := range below {
			if set&(1<<n) != 0 {
				list = append(list, n)
			}
		}
		lists = append(lists, list)
	}
	slices.SortFunc(lists, slices.Compare)
	return lists
}

// pick is the best choice for a wish, and whether there is one.
func (t tried) pick(w api.CrWish) (api.CrChoice, bool) {
	best, found := api.CrChoice{}, false
	for _, routes := range listsOf(len(t.Routes)) {
		if meet, bound := t.meet(routes, w); meet && (!found || bound < best.Bound) {
			best, found = choice(bound, routes...), true
		}
	}
	return best, found
}

// doubt is the first two of some routes that can be farther apart than a bound.
func (t tried) doubt(routes []int, bound int) api.CrDoubt {
	for i, a := range routes {
		for _, b := range routes[i+1:] {
			apart := t.apart(a, b)
			if max(-apart.Harder.Lo, apart.Harder.Hi) <= bound {
				continue
			}
			if -apart.Harder.Lo >= apart.Harder.Hi {
				return api.CrDoubt{A: a, B: b, Traffic: apart.Least}
			}
			return api.CrDoubt{A: a, B: b, Traffic: apart.Great}
		}
	}
	return none()
}

// TestAnyCourse checks P9.2 and P9.3 against the document's words.
func TestAnyCourse(t *testing.T) {
	r := rand.New(rand.NewSource(92))
	same, equal, many := 0, 0, 0
	for range 600 {
		c := randomCourse(r, small)
		all := tryAll(c)
		if part, at, e := course.Check(c); part != 0 || at != 0 || e != api.OK {
			t.Fatalf("%v: Check = %d, %d, %d", c, part, at, e)
		}
		for a := range c.Routes {
			want := span(slices.Min(all.hard[a]), slices.Max(all.hard[a]))
			if hard, e := course.Hard(c, a); hard != want || e != api.OK {
				t.Fatalf("%v: Hard of %d = %v, %d, not %v", c, a, hard, e, want)
			}
			i := r.Intn(len(all.traffic))
			if hard, e := course.At(c, a, all.traffic[i]); hard != all.hard[a][i] || e != api.OK {
				t.Fatalf("%v: At of %d and %v = %d, %d, not %d", c, a, all.traffic[i], hard, e, all.hard[a][i])
			}
			for b := range c.Routes {
				want := all.apart(a, b)
				if apart, e := course.Apart(c, a, b); !reflect.DeepEqual(apart, want) || e != api.OK {
					t.Fatalf("%v: Apart of %d and %d = %v, %d, not %v", c, a, b, apart, e, want)
				}
				differ := all.differ(a, b)
				if streets, e := course.Differ(c, a, b); !slices.Equal(streets, differ) || e != api.OK {
					t.Fatalf("%v: Differ of %d and %d = %v, %d, not %v", c, a, b, streets, e, differ)
				}
				if a < b && want.Harder == span(0, 0) {
					equal++
				}
				if a < b && len(differ) == 0 && want.Harder != span(0, 0) {
					same++
				}
				many += min(1, len(differ)/3)
			}
		}
	}
	if same < 100 || equal < 100 || many < 100 {
		t.Errorf("only %d routes differ in no street and are apart, %d are never apart, and %d differ in many", same, equal, many)
	}
}

// TestAnyPick checks P9.4 against the document's words.
func TestAnyPick(t *testing.T) {
	r := rand.New(rand.NewSource(94))
	picked, down, late := map[int]int{}, 0, 0
	for range 2000 {
		c := randomCourse(r, small)
		all := tryAll(c)
		for range 4 {
			w := randomWish(r, c)
			want, found := all.pick(w)
			is, e := course.Pick(c, w)
			if !found {
				if !reflect.ValueOf(is).IsZero() || e != api.ErrDown {
					t.Fatalf("%v: Pick of %v = %v, %d", c, w, is, e)
				}
				down++
				continue
			}
			if !reflect.DeepEqual(is, want) || e != api.OK {
				t.Fatalf("%v: Pick of %v = %v, %d, not %v", c, w, is, e, want)
			}
			picked[w.Many]++
			if want.Routes[0] > 0 && want.Bound > 0 {
				late++
			}
		}
	}
	for many := range 5 {
		if picked[many+1] < 100 {
			t.Errorf("only %d choices have %d routes", picked[many+1], many+1)
		}
	}
	if down < 500 || late < 200 {
		t.Errorf("only %d wishes are not met, and %d choices begin late", down, late)
	}
}

// TestAnyDoubt checks P9.5 against the document's words.
func TestAnyDoubt(t *testing.T) {
	r := rand.New(rand.NewSource(95))
	some, nothing, back, later := 0, 0, 0, 0
	for range 2000 {
		c := randomCourse(r, small)
		if len(c.Routes) == 0 {
			continue
		}
		all := tryAll(c)
		for range 4 {
			routes := make([]int, r.Intn(6))
			for i := range routes {
				routes[i] = r.Intn(len(c.Routes))
			}
			if r.Intn(2) == 0 {
				routes = r.Perm(len(c.Routes))
			}
			bound := r.Intn(20)
			if a, b := r.Intn(len(c.Routes)), r.Intn(len(c.Routes)); r.Intn(2) == 0 {
				bound = max(0, all.apart(a, b).Harder.Hi-r.Intn(2))
			}
			want := all.doubt(routes, bound)
			if is, e := course.Doubt(c, routes, bound); !reflect.DeepEqual(is, want) || e != api.OK {
				t.Fatalf("%v: Doubt of %v and %d = %v, %d, not %v", c, routes, bound, is, e, want)
			}
			if want.A < 0 {
				nothing++
				continue
			}
			some++
			back += min(1, max(0, want.A-want.B))
			if want.A != routes[0] {
				later++
			}
		}
	}
	if some < 500 || nothing < 500 || back < 200 || later < 100 {
		t.Errorf("only %d doubts, %d of them with the greater route first, %d behind the first route, and %d are none", some, back, later, nothing)
	}
}

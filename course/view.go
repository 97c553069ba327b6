package course

import (
	"iter"

	"bitepoint/api"
	"bitepoint/check"
)

// view is a course that is looked at, and the tallies of its routes.
type view struct {
	api.CrCourse
	tallies []tally
}

// tally is how often a route drives each street, or how much more often than
// another one does.
type tally [api.MaxStStreets]int

// open returns the view of a course, and the first error: that of the course,
// then ErrNone if one of some routes is none.
func open(c api.CrCourse, routes ...int) (view, api.Errno) {
	if _, _, e := Check(c); e != api.OK {
		return view{}, e
	}
	v := view{CrCourse: c}
	if !v.areRoutes(routes...) {
		return view{}, api.ErrNone
	}
	for _, steps := range v.Routes {
		v.tallies = append(v.tallies, counted(steps))
	}
	return v, api.OK
}

// areRoutes reports whether all numbers are indices of routes.
func (v view) areRoutes(numbers ...int) bool { return check.Within(0, len(v.Routes)-1, numbers...) }

// isTraffic reports whether numbers, one for each street, are a traffic.
func (v view) isTraffic(numbers []int) bool {
	for street, h := range v.Hard {
		if !check.Within(h.Traffic.Lo, h.Traffic.Hi, numbers[street]) {
			return false
		}
	}
	return true
}

// counted returns the tally of a route.
func counted(steps []api.StStep) tally {
	var t tally
	for _, step := range steps {
		t[step.Street]++
	}
	return t
}

// minus returns how much more often than another one a route drives each
// street.
func (t tally) minus(other tally) tally {
	for street, times := range other {
		t[street] -= times
	}
	return t
}

// load is a street, and how often it is driven; less than 0, if another route
// drives it so much more often.
type load struct {
	api.CrHard
	times int
}

// at returns how hard a load is at a traffic of its street.
func (l load) at(traffic int) int { return l.times * (l.Base + l.Per*traffic) }

// least returns at which traffic a load is least hard, and how hard it is then.
func (l load) least() (traffic, hard int) {
	lo, hi := l.at(l.Traffic.Lo), l.at(l.Traffic.Hi)
	if hi < lo {
		return l.Traffic.Hi, hi
	}
	return l.Traffic.Lo, lo
}

// most returns at which traffic a load is hardest, and how hard it is then.
func (l load) most() (traffic, hard int) {
	lo, hi := l.at(l.Traffic.Lo), l.at(l.Traffic.Hi)
	if hi > lo {
		return l.Traffic.Hi, hi
	}
	return l.Traffic.Lo, lo
}

// loads yields each street and its load.
func (v view) loads(t tally) iter.Seq2[int, load] {
	return func(yield func(street int, l load) bool) {
		for street, h := range v.Hard {
			if !yield(street, load{h, t[street]}) {
				return
			}
		}
	}
}

// at returns how hard all streets of a tally are at a traffic, together.
func (v view) at(t tally, traffic []int) int {
	together := 0
	for street, l := range v.loads(t) {
		together += l.at(traffic[street])
	}
	return together
}

// end returns the traffic of which a load has a number for each street, and
// how hard all streets of a tally are then, together.
func (v view) end(t tally, of func(l load) (traffic, hard int)) (all []int, together int) {
	for _, l := range v.loads(t) {
		traffic, hard := of(l)
		all = append(all, traffic)
		together += hard
	}
	return all, together
}

// apart returns how hard all streets of a tally are at least and at most,
// together. The traffic of a street does not depend on that of another one, so
// each street is at its own end.
func (v view) apart(t tally) api.CrApart {
	least, lo := v.end(t, load.least)
	great, hi := v.end(t, load.most)
	return api.CrApart{Harder: api.Span{Lo: lo, Hi: hi}, Least: least, Great: great}
}

// farthest returns by how much two routes are apart at most, and at which
// traffic.
func (v view) farthest(a, b int) (by int, traffic []int) {
	apart := v.apart(v.tallies[a].minus(v.tallies[b]))
	if -apart.Harder.Lo >= apart.Harder.Hi {
		return -apart.Harder.Lo, apart.Least
	}
	return apart.Harder.Hi, apart.Great
}

// differ returns the streets that one of two routes drives, and the other one
// does not.
func (v view) differ(a, b int) []int {
	var streets []int
	for street := range v.Hard {
		if (v.tallies[a][street] > 0) != (v.tallies[b][street] > 0) {
			streets = append(streets, street)
		}
	}
	return streets
}

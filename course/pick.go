package course

import (
	"iter"
	"slices"

	"bitepoint/api"
	"bitepoint/check"
	"bitepoint/street"
)

// none is what a doubt has in place of routes, if there are none.
const none = -1

// wishError returns the error of a wish.
func (v view) wishError(w api.CrWish) api.Errno {
	sets := 1 << len(v.Town.Shows)
	switch {
	case !check.Within(1, api.MaxCrRoutes, w.Many) || !check.Within(0, api.MaxStStreets, w.Differ) || !check.Within(0, sets-1, w.Show):
		return api.ErrRange
	case !check.Within(0, len(v.Town.Times)-1, w.Time):
		return api.ErrNone
	}
	return api.OK
}

// showing returns the routes that show all of a set at a time of the day.
func (v view) showing(set, time int) []int {
	var routes []int
	for route, steps := range v.Routes {
		tour, _, _ := street.Drive(v.Town, v.Centre, time, steps)
		if set&^tour.Shown == 0 {
			routes = append(routes, route)
		}
	}
	return routes
}

// best returns the best choice for a wish, or one without routes, if no routes
// meet it. Choices are tried in their order, so one that is only as good as
// the best one so far comes behind it.
func (v view) best(w api.CrWish) api.CrChoice {
	best := api.CrChoice{Bound: api.MaxCrBound + 1}
	var choose func(chosen, left []int, bound int)
	choose = func(chosen, left []int, bound int) {
		if bound >= best.Bound {
			return
		}
		if len(chosen) == w.Many {
			best = api.CrChoice{Routes: chosen, Bound: bound}
			return
		}
	routes:
		for i, route := range left {
			wider := bound
			for _, other := range chosen {
				if len(v.differ(other, route)) < w.Differ {
					continue routes
				}
				by, _ := v.farthest(other, route)
				wider = max(wider, by)
			}
			choose(slices.Concat(chosen, []int{route}), left[i+1:], wider)
		}
	}
	choose(nil, v.showing(w.Show, w.Time), 0)
	return best
}

// pairs yields each route of a list with each one behind it.
func pairs(routes []int) iter.Seq2[int, int] {
	return func(yield func(a, b int) bool) {
		for i, a := range routes {
			for _, b := range routes[i+1:] {
				if !yield(a, b) {
					return
				}
			}
		}
	}
}

// doubt returns the first two of some routes that can be farther apart than a
// bound.
func (v view) doubt(routes []int, bound int) api.CrDoubt {
	for a, b := range pairs(routes) {
		// What both drive as often cancels out, so these are never apart.
		if v.tallies[a] == v.tallies[b] {
			continue
		}
		if by, traffic := v.farthest(a, b); by > bound {
			return api.CrDoubt{A: a, B: b, Traffic: traffic}
		}
	}
	return api.CrDoubt{A: none, B: none}
}

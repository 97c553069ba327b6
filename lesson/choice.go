package lesson

import (
	"cmp"
	"math"

	"bitepoint/api"
	"bitepoint/check"
	"bitepoint/sets"
)

// Fewest returns the fewest lessons that show everything as often as needed.
func Fewest(patterns []api.LePattern, needs []int) (api.LeChoice, api.Errno) {
	if e := patternsError(patterns, needs); e != api.OK {
		return api.LeChoice{}, e
	}
	if !canBeShown(patterns, needs) {
		return api.LeChoice{}, api.ErrDown
	}
	var all left
	copy(all[:], needs)
	return best(patterns, all), api.OK
}

// Floor returns a bound that fair prices prove for the number of lessons.
func Floor(patterns []api.LePattern, needs, prices []int) (int, api.Errno) {
	if e := patternsError(patterns, needs); e != api.OK {
		return 0, e
	}
	switch {
	case len(prices) != len(needs):
		return 0, api.ErrLong
	case !check.Within(0, api.All, prices...):
		return 0, api.ErrRange
	case !areFair(patterns, prices):
		return 0, api.ErrArg
	}
	sum := 0
	for thing, price := range prices {
		sum += needs[thing] * price
	}
	return (sum + api.All - 1) / api.All, api.OK
}

// patternsError returns the error of patterns and needs.
func patternsError(patterns []api.LePattern, needs []int) api.Errno {
	if !check.Within(1, api.MaxLePatterns, len(patterns)) || !check.Within(1, api.MaxLeShows, len(needs)) {
		return api.ErrLong
	}
	if !check.Within(0, api.MaxLeNeed, needs...) {
		return api.ErrRange
	}
	_, e := check.FirstError(patterns, func(_ int, p api.LePattern) api.Errno {
		if !check.Within(0, 1<<len(needs)-1, p.Shows) || !check.Within(0, api.MaxLeMetres, p.Metres) {
			return api.ErrRange
		}
		return api.OK
	})
	return e
}

// canBeShown reports whether some pattern shows each thing that is needed.
func canBeShown(patterns []api.LePattern, needs []int) bool {
	shown := 0
	for _, p := range patterns {
		shown |= p.Shows
	}
	for thing, need := range needs {
		if need > 0 && !sets.Has(shown, thing) {
			return false
		}
	}
	return true
}

// areFair reports whether no pattern shows things of more than All together.
func areFair(patterns []api.LePattern, prices []int) bool {
	for _, p := range patterns {
		sum := 0
		for thing, price := range prices {
			if sets.Has(p.Shows, thing) {
				sum += price
			}
		}
		if sum > api.All {
			return false
		}
	}
	return true
}

// left is how often each thing still has to be shown.
type left [api.MaxLeShows]int

// after returns what is left after a lesson.
func (l left) after(p api.LePattern) left {
	for thing, need := range l {
		if need > 0 && sets.Has(p.Shows, thing) {
			l[thing]--
		}
	}
	return l
}

// cost is how many lessons there are, and their metres.
type cost struct{ lessons, metres int }

// with returns the cost with a lesson more.
func (c cost) with(p api.LePattern) cost { return cost{c.lessons + 1, c.metres + p.Metres} }

// compare orders costs by lessons, then by metres.
func (c cost) compare(other cost) int {
	return cmp.Or(cmp.Compare(c.lessons, other.lessons), cmp.Compare(c.metres, other.metres))
}

// leastCosts returns what tells the least cost of what is left, all of which
// can be shown. A lesson that shows nothing of it is of no use.
func leastCosts(patterns []api.LePattern) func(now left) cost {
	known := map[left]cost{{}: {}}
	var least func(now left) cost
	least = func(now left) cost {
		if c, is := known[now]; is {
			return c
		}
		best := cost{lessons: math.MaxInt}
		for _, p := range patterns {
			next := now.after(p)
			if next == now {
				continue
			}
			if c := least(next).with(p); c.compare(best) < 0 {
				best = c
			}
		}
		known[now] = best
		return best
	}
	return least
}

// best returns the best choice for what is needed, all of which can be shown.
// The first pattern of any best choice leaves what another best choice is for;
// so the first of these patterns is taken, again and again, and none of them
// comes before those that were taken.
func best(patterns []api.LePattern, now left) api.LeChoice {
	least := leastCosts(patterns)
	choice := api.LeChoice{Metres: least(now).metres}
	for now != (left{}) {
		for at, p := range patterns {
			next := now.after(p)
			if next != now && least(next).with(p) == least(now) {
				choice.Lessons = append(choice.Lessons, at)
				now = next
				break
			}
		}
	}
	return choice
}

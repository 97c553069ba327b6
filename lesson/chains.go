package lesson

import (
	"math/bits"
	"slices"

	"bitepoint/api"
	"bitepoint/check"
	"bitepoint/sets"
)

// none is what stands for a lesson where there is none.
const none = -1

// Chains returns the fewest chains of all lessons.
func Chains(d api.LeDay) ([][]int, api.Errno) {
	v, e := open(d)
	if e != api.OK {
		return nil, e
	}
	next := v.bestNext()
	var chains [][]int
	for lesson := range next {
		if !slices.Contains(next, lesson) {
			chains = append(chains, chain(next, lesson))
		}
	}
	return chains, api.OK
}

// Cover returns the best cover of a day.
func Cover(d api.LeDay) (before, behind []int, e api.Errno) {
	v, e := open(d)
	if e != api.OK {
		return nil, nil, e
	}
	best := v.coverWith(0)
	for set := range 1 << len(v.Lessons) {
		if c := v.coverWith(set); c.entries() < best.entries() {
			best = c
		}
	}
	return sets.Indices(best.before), sets.Indices(best.behind), api.OK
}

// Proves returns how many chains a cover proves to be needed.
func Proves(d api.LeDay, before, behind []int) (chains int, e api.Errno) {
	v, e := open(d)
	if e != api.OK {
		return 0, e
	}
	switch last := len(v.Lessons) - 1; {
	case !check.Within(0, last, before...) || !check.Within(0, last, behind...):
		return 0, api.ErrNone
	case !ascends(before) || !ascends(behind):
		return 0, api.ErrTwice
	case v.coverWith(sets.Of(before)).behind&^sets.Of(behind) != 0:
		return 0, api.ErrArg
	}
	return max(0, len(v.Lessons)-len(before)-len(behind)), api.OK
}

// chain returns the chain that begins with a lesson.
func chain(next []int, first int) []int {
	var lessons []int
	for at := first; at != none; at = next[at] {
		lessons = append(lessons, at)
	}
	return lessons
}

// bestNext returns, for each lesson, the one behind it in the best partition,
// or none. Each pair of lessons next to each other is a chain less: so a pair
// is kept if the lessons behind it can then still be in as many pairs as ever.
func (v view) bestNext() []int {
	next := slices.Repeat([]int{none}, len(v.Lessons))
	taken, pairs := 0, v.mostPairs(0, 0)
lessons:
	for lesson := range v.Lessons {
		for other := range v.following(lesson) {
			if !sets.Has(taken, other) && v.mostPairs(lesson+1, taken|1<<other) == pairs-1 {
				next[lesson] = other
				taken |= 1 << other
				pairs--
				continue lessons
			}
		}
	}
	return next
}

// mostPairs returns how many of the lessons from one on can have another one
// behind them, each another one, and none that is taken.
func (v view) mostPairs(first, taken int) int {
	ahead := slices.Repeat([]int{none}, len(v.Lessons))
	var tried int
	// place finds a lesson behind one. The lesson ahead of it may be in the
	// way: then another one is found for that.
	var place func(lesson int) bool
	place = func(lesson int) bool {
		for other := range v.following(lesson) {
			if sets.Has(tried, other) {
				continue
			}
			tried |= 1 << other
			if ahead[other] == none || place(ahead[other]) {
				ahead[other] = lesson
				return true
			}
		}
		return false
	}
	pairs := 0
	for lesson := first; lesson < len(v.Lessons); lesson++ {
		tried = taken
		if place(lesson) {
			pairs++
		}
	}
	return pairs
}

// cover is two sets of lessons, as bits.
type cover struct{ before, behind int }

// coverWith returns the cover with a set before, and with no more behind than
// this needs.
func (v view) coverWith(before int) cover {
	c := cover{before: before}
	for lesson, behind := range v.behind {
		if !sets.Has(before, lesson) {
			c.behind |= behind
		}
	}
	return c
}

// entries returns how many entries both sets have.
func (c cover) entries() int { return bits.OnesCount(uint(c.before)) + bits.OnesCount(uint(c.behind)) }

// ascends reports whether each number of a list is above the one before it.
func ascends(list []int) bool {
	for i := 1; i < len(list); i++ {
		if list[i] <= list[i-1] {
			return false
		}
	}
	return true
}

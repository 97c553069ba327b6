package queue

import (
	"cmp"
	"slices"

	"bitepoint/api"
	"bitepoint/check"
	"bitepoint/names"
)

// none is what a learner is given who is given no centre, and the home of who
// has none.
const none = -1

// view is a list that is looked at, with the rank of each learner at each
// centre. What learners wish for, and how many places there are, does not
// change the ranks.
type view struct {
	api.QuList
	ranks map[applicant]int
}

// applicant is a learner at a centre.
type applicant struct{ centre, learner int }

// look returns the view of a list, and the error of it.
func look(l api.QuList) (view, api.Errno) {
	if _, _, e := Check(l); e != api.OK {
		return view{}, e
	}
	v := view{QuList: l, ranks: map[applicant]int{}}
	for centre := range v.Centres {
		for learner := range v.Learners {
			v.ranks[applicant{centre, learner}] = v.rank(centre, learner)
		}
	}
	return v, api.OK
}

// centreError returns the error of a centre.
func (v view) centreError(at int, c api.QuCentre) api.Errno {
	if e := names.Error(v.Centres, at, func(c api.QuCentre) string { return c.Name }); e != api.OK {
		return e
	}
	if !check.Within(0, api.MaxQuPlaces, c.Places) {
		return api.ErrRange
	}
	return indicesError(c.Rules, api.QuFails+1)
}

// learnerError returns the error of a learner.
func (v view) learnerError(at int, l api.QuLearner) api.Errno {
	if e := names.Error(v.Learners, at, func(l api.QuLearner) string { return l.Name }); e != api.OK {
		return e
	}
	if !check.Within(0, api.MaxDay, l.Since) || !check.Within(0, api.MaxQuFails, l.Fails) {
		return api.ErrRange
	}
	if l.Home != none && !isIndex(l.Home, len(v.Centres)) {
		return api.ErrNone
	}
	return indicesError(l.Wishes, len(v.Centres))
}

// indicesError returns the error of a list of indices that are below a number,
// no two the same.
func indicesError(list []int, below int) api.Errno {
	_, e := check.FirstError(list, func(at, index int) api.Errno {
		switch {
		case !isIndex(index, below):
			return api.ErrNone
		case slices.Contains(list[:at], index):
			return api.ErrTwice
		}
		return api.OK
	})
	return e
}

// isIndex reports whether a number is an index that is below another one.
func isIndex(n, below int) bool { return check.Within(0, below-1, n) }

// rank returns the rank of a learner at a centre: the first one has the rank 1.
func (v view) rank(centre, learner int) int {
	numbers := v.ruleNumbers()
	rank := 1
others:
	for other := range v.Learners {
		for _, rule := range v.Centres[centre].Rules {
			switch cmp.Compare(numbers[rule](centre, other), numbers[rule](centre, learner)) {
			case -1:
				rank++
				continue others
			case 1:
				continue others
			}
		}
		if v.Learners[other].Name < v.Learners[learner].Name {
			rank++
		}
	}
	return rank
}

// ruleNumbers returns for each rule the number of a learner at a centre that it
// looks at: who has the least one is the first.
func (v view) ruleNumbers() [api.QuFails + 1]func(centre, learner int) int {
	return [...]func(centre, learner int) int{api.QuSince: v.since, api.QuHome: v.away, api.QuFails: v.fails}
}

// since returns since when a learner waits, whatever the centre is.
func (v view) since(_, learner int) int { return v.Learners[learner].Since }

// away returns 0 for a learner whose home is a centre, and 1 for another one.
func (v view) away(centre, learner int) int {
	if v.Learners[learner].Home == centre {
		return 0
	}
	return 1
}

// fails returns how often a learner failed, whatever the centre is.
func (v view) fails(_, learner int) int { return v.Learners[learner].Fails }

// order returns all learners as a centre ranks them.
func (v view) order(centre int) []int {
	order := make([]int, len(v.Learners))
	for learner := range v.Learners {
		order[v.ranks[applicant{centre, learner}]-1] = learner
	}
	return order
}

// without returns the view of the list that a learner has left. The others have
// the same numbers as before: who wishes for nothing takes nothing from anybody.
func (v view) without(learner int) view {
	v.Learners = slices.Clone(v.Learners)
	v.Learners[learner].Wishes = nil
	return v
}

// withPlace returns the view of the list with a place more at a centre.
func (v view) withPlace(centre int) view {
	v.Centres = slices.Clone(v.Centres)
	v.Centres[centre].Places++
	return v
}

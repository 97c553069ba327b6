package queue

import (
	"iter"
	"slices"

	"bitepoint/api"
)

// best returns the best distribution. Its learners do not ask all at once, but
// one by one: it is the same, in whatever order they ask.
func (v view) best() []int {
	given := slices.Repeat([]int{none}, len(v.Learners))
	var ask func(learner int, wishes []int)
	ask = func(learner int, wishes []int) {
		if len(wishes) == 0 {
			given[learner] = none
			return
		}
		centre := wishes[0]
		given[learner] = centre
		if kept := v.holders(given, centre); len(kept) > v.Centres[centre].Places {
			away := kept[len(kept)-1]
			ask(away, v.worse(away, centre))
		}
	}
	for learner, l := range v.Learners {
		ask(learner, l.Wishes)
	}
	return given
}

// holders returns the learners to whom a centre is given, as it ranks them.
func (v view) holders(given []int, centre int) []int {
	return slices.DeleteFunc(v.order(centre), func(learner int) bool { return given[learner] != centre })
}

// worse returns the wishes of a learner behind one of them.
func (v view) worse(learner, centre int) []int {
	wishes := v.Learners[learner].Wishes
	return wishes[slices.Index(wishes, centre)+1:]
}

// better yields the wishes of a learner that they prefer to what they are given:
// a wish, or none.
func (v view) better(learner, given int) iter.Seq[int] {
	return func(yield func(centre int) bool) {
		for _, centre := range v.Learners[learner].Wishes {
			if centre == given || !yield(centre) {
				return
			}
		}
	}
}

// cut returns the last rank with which learners have a place of a centre, or
// could have one.
func (v view) cut(given []int, centre int) int {
	holders := v.holders(given, centre)
	switch {
	case len(holders) < v.Centres[centre].Places:
		return len(v.Learners)
	case len(holders) == 0:
		return 0
	}
	return v.ranks[applicant{centre, holders[len(holders)-1]}]
}

// complaint returns the first one of their wishes about which a learner has a
// complaint, and whether there is one. The cut tells it: up to it a centre has a
// free place, or one that somebody behind the learner has.
func (v view) complaint(given []int, learner int) (centre int, has bool) {
	for centre := range v.better(learner, given[learner]) {
		if v.ranks[applicant{centre, learner}] <= v.cut(given, centre) {
			return centre, true
		}
	}
	return 0, false
}

// givenError returns the error of what a learner is given.
func (v view) givenError(learner, centre int) api.Errno {
	if centre != none && !slices.Contains(v.Learners[learner].Wishes, centre) {
		return api.ErrNone
	}
	return api.OK
}

// placesError returns what tells whether a centre is given to more learners than
// it has places.
func (v view) placesError(given []int) func(at int, c api.QuCentre) api.Errno {
	return func(at int, c api.QuCentre) api.Errno {
		if len(v.holders(given, at)) > c.Places {
			return api.ErrRange
		}
		return api.OK
	}
}

// moves returns who is given something else after a change than before it.
func moves(before, after []int) []api.QuMove {
	var moves []api.QuMove
	for learner, from := range before {
		if to := after[learner]; to != from {
			moves = append(moves, api.QuMove{Learner: learner, From: from, To: to})
		}
	}
	return moves
}

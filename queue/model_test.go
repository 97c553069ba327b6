package queue_test

import (
	"math/rand"
	"slices"
	"testing"

	"bitepoint/api"
	"bitepoint/queue"
)

// learner is a learner with some wishes, and no home.
func learner(name string, since int, wishes ...int) api.QuLearner {
	return api.QuLearner{Name: name, Since: since, Home: -1, Wishes: wishes}
}

// centre is a centre with some places and rules.
func centre(name string, places int, rules ...int) api.QuCentre {
	return api.QuCentre{Name: name, Places: places, Rules: rules}
}

// example is L of the document's examples.
func example() api.QuList {
	l := api.QuList{
		Centres:  []api.QuCentre{centre("north", 1, api.QuHome, api.QuSince), centre("south", 1, api.QuSince)},
		Learners: []api.QuLearner{learner("ann", 10, 0, 1), learner("ben", 20, 0, 1), learner("cy", 15, 1, 0)},
	}
	l.Learners[1].Home = 0
	return l
}

// cloneList is a copy of a list, without shared memory.
func cloneList(l api.QuList) api.QuList {
	l.Centres, l.Learners = slices.Clone(l.Centres), slices.Clone(l.Learners)
	for i := range l.Centres {
		l.Centres[i].Rules = slices.Clone(l.Centres[i].Rules)
	}
	for i := range l.Learners {
		l.Learners[i].Wishes = slices.Clone(l.Learners[i].Wishes)
	}
	return l
}

// learnerNames are names some of which begin others.
var learnerNames = []string{"a", "ab", "a1", "abc", "b", "b2", "ba", "z", "z0z", "zz", "m", "mmmmmmmmmmmmmmmm"}

// randomList is a list without an error, with at most so many centres and
// learners: mostly with few places, and with learners whom some rules do not
// tell apart. On some lists centres rank first who does not wish for them first:
// these have several fair distributions more often.
func randomList(r *rand.Rand, centres, learners int) api.QuList {
	var l api.QuList
	scarce := r.Intn(3) > 0
	for at := range 1 + r.Intn(centres) {
		c := centre("c"+learnerNames[at], r.Intn(3), r.Perm(3)[:r.Intn(4)]...)
		if !scarce {
			c.Places = r.Intn(7)
		}
		l.Centres = append(l.Centres, c)
	}
	names := r.Perm(len(learnerNames))
	for at := range r.Intn(learners + 1) {
		one := learner(learnerNames[names[at]], r.Intn(4)*r.Intn(3))
		one.Home, one.Fails = r.Intn(len(l.Centres)+1)-1, r.Intn(3)
		one.Wishes = r.Perm(len(l.Centres))
		if r.Intn(3) == 0 {
			one.Wishes = one.Wishes[:r.Intn(len(l.Centres)+1)]
		}
		l.Learners = append(l.Learners, one)
	}
	if r.Intn(3) == 0 {
		makeContrary(l)
	}
	return l
}

// makeContrary makes the centres of a list rank first, if they can, who wishes
// for them last.
func makeContrary(l api.QuList) {
	for at, c := range l.Centres {
		rest := slices.DeleteFunc(c.Rules, func(rule int) bool { return rule == api.QuHome })
		l.Centres[at].Rules = slices.Insert(rest, 0, api.QuHome)
		l.Centres[at].Places = min(1, c.Places)
	}
	for i, one := range l.Learners {
		if last := len(one.Wishes) - 1; last >= 0 {
			l.Learners[i].Home = one.Wishes[last]
		}
	}
}

// ranksBefore reports whether a centre ranks a learner before another one, by
// the words of the document.
func ranksBefore(l api.QuList, centre, a, b int) bool {
	one, other := l.Learners[a], l.Learners[b]
	for _, rule := range l.Centres[centre].Rules {
		switch {
		case rule == api.QuSince && one.Since != other.Since:
			return one.Since < other.Since
		case rule == api.QuHome && (one.Home == centre) != (other.Home == centre):
			return one.Home == centre
		case rule == api.QuFails && one.Fails != other.Fails:
			return one.Fails < other.Fails
		}
	}
	return one.Name < other.Name
}

// ranked puts learners in the order of a centre.
func ranked(l api.QuList, centre int, learners []int) {
	slices.SortFunc(learners, func(a, b int) int {
		switch {
		case a == b:
			return 0
		case ranksBefore(l, centre, a, b):
			return -1
		}
		return 1
	})
}

// everybody is the indices of all learners.
func everybody(l api.QuList) []int {
	all := make([]int, len(l.Learners))
	for i := range all {
		all[i] = i
	}
	return all
}

// orderOf is all learners in the order of a centre.
func orderOf(l api.QuList, centre int) []int {
	all := everybody(l)
	ranked(l, centre, all)
	return all
}

// bestOf is the best distribution, by the words of the document: all ask, and
// who is turned away asks at the next one of their wishes.
func bestOf(l api.QuList) []int {
	turned := make([]int, len(l.Learners)) // by how many of their wishes
	for {
		given := make([]int, len(l.Learners))
		asking := make([][]int, len(l.Centres))
		for i, one := range l.Learners {
			given[i] = -1
			if turned[i] < len(one.Wishes) {
				given[i] = one.Wishes[turned[i]]
				asking[given[i]] = append(asking[given[i]], i)
			}
		}
		anybody := false
		for at, who := range asking {
			ranked(l, at, who)
			for _, i := range who[min(len(who), l.Centres[at].Places):] {
				turned[i]++
				anybody = true
			}
		}
		if !anybody {
			return given
		}
	}
}

// prefers reports whether a learner prefers a centre, or none, to another one.
func prefers(l api.QuList, learner, a, b int) bool {
	wishes := l.Learners[learner].Wishes
	at, other := slices.Index(wishes, a), slices.Index(wishes, b)
	return at >= 0 && (other < 0 || at < other)
}

// manyAt is to how many learners a centre is given.
func manyAt(given []int, centre int) int {
	many := 0
	for _, one := range given {
		if one == centre {
			many++
		}
	}
	return many
}

// complains reports whether a learner has a complaint about a centre.
func complains(l api.QuList, given []int, learner, centre int) bool {
	if !prefers(l, learner, centre, given[learner]) {
		return false
	}
	for other, one := range given {
		if one == centre && ranksBefore(l, centre, learner, other) {
			return true
		}
	}
	return l.Centres[centre].Places > manyAt(given, centre)
}

// acceptOf is what Accept returns for a list of as many numbers as learners.
func acceptOf(l api.QuList, given []int) (learner, centre int, e api.Errno) {
	for i, one := range given {
		if one != -1 && !slices.Contains(l.Learners[i].Wishes, one) {
			return i, 0, api.ErrNone
		}
	}
	for at, c := range l.Centres {
		if manyAt(given, at) > c.Places {
			return 0, at, api.ErrRange
		}
	}
	for i, one := range l.Learners {
		for _, wish := range one.Wishes {
			if complains(l, given, i, wish) {
				return i, wish, api.ErrDown
			}
		}
	}
	return 0, 0, api.OK
}

// cutOf is what Cut returns.
func cutOf(l api.QuList) []int {
	given := bestOf(l)
	var cuts []int
	for at, c := range l.Centres {
		last := 0
		for rank, i := range orderOf(l, at) {
			if given[i] == at {
				last = rank + 1
			}
		}
		switch {
		case manyAt(given, at) < c.Places:
			last = len(l.Learners)
		case c.Places == 0:
			last = 0
		}
		cuts = append(cuts, last)
	}
	return cuts
}

// cancelOf is what Cancel returns: from the list on which a learner is not.
func cancelOf(l api.QuList, learner int) []api.QuMove {
	shorter := cloneList(l)
	shorter.Learners = slices.Delete(shorter.Learners, learner, learner+1)
	return movesOf(bestOf(l), slices.Insert(bestOf(shorter), learner, bestOf(l)[learner]))
}

// openOf is what Open returns.
func openOf(l api.QuList, centre int) []api.QuMove {
	larger := cloneList(l)
	larger.Centres[centre].Places++
	return movesOf(bestOf(l), bestOf(larger))
}

// movesOf is who is given something else.
func movesOf(before, after []int) []api.QuMove {
	var moves []api.QuMove
	for i := range before {
		if before[i] != after[i] {
			moves = append(moves, api.QuMove{Learner: i, From: before[i], To: after[i]})
		}
	}
	return moves
}

// distributions are all that give each learner one of their wishes, or none.
func distributions(l api.QuList) [][]int {
	lists := [][]int{nil}
	for _, one := range l.Learners {
		var longer [][]int
		for _, list := range lists {
			for _, given := range append([]int{-1}, one.Wishes...) {
				longer = append(longer, append(slices.Clone(list), given))
			}
		}
		lists = longer
	}
	return lists
}

// TestAnyList checks P12.2, P12.3, P12.5 and P12.6 with lists of any size
// against the document's words.
func TestAnyList(t *testing.T) {
	r := rand.New(rand.NewSource(122))
	turned, moves, full := 0, 0, 0
	for range 6000 {
		l := randomList(r, 5, 8)
		if part, at, e := queue.Check(l); part != 0 || at != 0 || e != api.OK {
			t.Fatalf("%v: Check = %d, %d, %d", l, part, at, e)
		}
		best := bestOf(l)
		if given, e := queue.Give(l); !slices.Equal(given, best) || e != api.OK {
			t.Fatalf("%v: Give = %v, %d, not %v", l, given, e, best)
		}
		if cut, e := queue.Cut(l); !slices.Equal(cut, cutOf(l)) || e != api.OK {
			t.Fatalf("%v: Cut = %v, %d, not %v", l, cut, e, cutOf(l))
		}
		for at, c := range l.Centres {
			if order, e := queue.Order(l, at); !slices.Equal(order, orderOf(l, at)) || e != api.OK {
				t.Fatalf("%v: Order of %d = %v, %d, not %v", l, at, order, e, orderOf(l, at))
			}
			if c.Places == 6 {
				full++
				continue
			}
			opened, e := queue.Open(l, at)
			if !slices.Equal(opened, openOf(l, at)) || e != api.OK {
				t.Fatalf("%v: Open of %d = %v, %d, not %v", l, at, opened, e, openOf(l, at))
			}
			moves += len(opened)
		}
		for i, one := range l.Learners {
			cancelled, e := queue.Cancel(l, i)
			if !slices.Equal(cancelled, cancelOf(l, i)) || e != api.OK {
				t.Fatalf("%v: Cancel of %d = %v, %d, not %v", l, i, cancelled, e, cancelOf(l, i))
			}
			moves += len(cancelled)
			turned += min(1, max(0, slices.Index(one.Wishes, best[i])))
		}
	}
	if turned < 3000 || moves < 3000 || full < 300 {
		t.Errorf("only %d learners were given a wish that is not their first one, %d moved, and %d centres had the most places", turned, moves, full)
	}
}

// TestAnyDistribution checks P12.4 with all distributions of lists, some of
// which give what is no wish, or no centre.
func TestAnyDistribution(t *testing.T) {
	r := rand.New(rand.NewSource(124))
	returned := map[api.Errno]int{}
	for range 1200 {
		l := randomList(r, 3, 5)
		for _, given := range distributions(l) {
			if len(given) > 0 && r.Intn(8) == 0 {
				given[r.Intn(len(given))] = r.Intn(len(l.Centres)+3) - 2
			}
			who, at, want := acceptOf(l, given)
			if i, centre, e := queue.Accept(l, given); i != who || centre != at || e != want {
				t.Fatalf("%v: Accept of %v = %d, %d, %d, not %d, %d, %d", l, given, i, centre, e, who, at, want)
			}
			returned[want]++
		}
	}
	for _, e := range []api.Errno{api.OK, api.ErrNone, api.ErrRange, api.ErrDown} {
		if returned[e] < 1000 {
			t.Errorf("Accept returns %d only %d times", e, returned[e])
		}
	}
}

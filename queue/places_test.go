package queue_test

import (
	"math"
	"slices"
	"testing"

	"bitepoint/api"
	"bitepoint/queue"
)

// listOf is a list of learners, with centres that have so many places and rank
// by Since.
func listOf(places []int, learners ...api.QuLearner) api.QuList {
	l := plain(len(places), 0)
	for at, many := range places {
		l.Centres[at].Places, l.Centres[at].Rules = many, []int{api.QuSince}
	}
	l.Learners = learners
	return l
}

// ring is a list on which each centre ranks first who wishes for another one
// first: two distributions are fair, and each learner has their first wish in
// the best one.
func ring() api.QuList {
	l := listOf([]int{1, 1}, learner("ann", 5, 0, 1), learner("ben", 5, 1, 0))
	l.Centres[0].Rules, l.Centres[1].Rules = []int{api.QuHome}, []int{api.QuHome}
	l.Learners[0].Home, l.Learners[1].Home = 1, 0
	return l
}

// TestGiveAndCut checks P12.3 and P12.5.
func TestGiveAndCut(t *testing.T) {
	for i, c := range []struct {
		l           api.QuList
		given, cuts []int
	}{
		{example(), []int{1, 0, -1}, []int{1, 1}},
		{ring(), []int{0, 1}, []int{2, 2}},
		{plain(1, 0), nil, []int{0}},
		{plain(5, 0), nil, []int{0, 0, 0, 0, 0}},
		{listOf([]int{0}), nil, []int{0}},
		{listOf([]int{0}, learner("ann", 1, 0)), []int{-1}, []int{0}},
		{listOf([]int{6}, learner("ann", 1, 0)), []int{0}, []int{1}},
		{listOf([]int{6}, learner("ann", 1)), []int{-1}, []int{1}},
		{listOf([]int{1}, learner("ann", 1)), []int{-1}, []int{1}},
		{listOf([]int{1}, learner("ann", 2, 0), learner("ben", 1)), []int{0, -1}, []int{2}},
		{listOf([]int{1}, learner("ann", 2, 0), learner("ben", 3)), []int{0, -1}, []int{1}},
		{listOf([]int{2}, learner("ann", 2, 0), learner("ben", 1)), []int{0, -1}, []int{2}},
		{listOf([]int{2}, learner("ann", 3, 0), learner("ben", 1, 0), learner("cy", 2, 0)), []int{-1, 0, 0}, []int{2}},
		// Who is turned away by a centre without places asks at the next one.
		{listOf([]int{0, 1}, learner("ann", 3, 0, 1), learner("ben", 1, 0, 1)), []int{-1, 1}, []int{0, 1}},
		// A chain: dan puts cy out of 0, cy ben out of 1, ben ann out of 2.
		{listOf([]int{1, 1, 1}, learner("ann", 9, 2), learner("ben", 8, 1, 2), learner("cy", 7, 0, 1), learner("dan", 6, 0)), []int{-1, 2, 1, 0}, []int{1, 2, 3}},
		// Nobody asks at a centre behind the one that keeps them.
		{listOf([]int{1, 1, 1}, learner("ann", 1, 2, 0, 1), learner("ben", 2, 2, 0, 1), learner("cy", 3, 2, 0, 1)), []int{2, 0, 1}, []int{2, 3, 1}},
		{listOf([]int{6, 2}, learner("a", 1, 0), learner("b", 1, 0), learner("c", 1, 0), learner("d", 1, 0), learner("e", 1, 0), learner("f", 1, 0), learner("g", 1, 0, 1), learner("h", 1, 0)), []int{0, 0, 0, 0, 0, 0, 1, -1}, []int{6, 8}},
	} {
		if given, e := queue.Give(c.l); !slices.Equal(given, c.given) || e != api.OK {
			t.Errorf("%d: Give = %v, %d, not %v", i, given, e, c.given)
		}
		if cuts, e := queue.Cut(c.l); !slices.Equal(cuts, c.cuts) || e != api.OK {
			t.Errorf("%d: Cut = %v, %d, not %v", i, cuts, e, c.cuts)
		}
	}
}

// TestAccept checks P12.4.
func TestAccept(t *testing.T) {
	roomy := listOf([]int{2, 1, 0}, learner("ann", 3, 1, 0), learner("ben", 2, 2, 0), learner("cy", 1, 2, 1, 0))
	for i, c := range []struct {
		l           api.QuList
		given       []int
		who, centre int
		e           api.Errno
	}{
		{example(), []int{1, 0, -1}, 0, 0, api.OK},
		{example(), []int{0, 1, -1}, 1, 0, api.ErrDown},
		{example(), []int{-1, 0, 1}, 0, 1, api.ErrDown},
		{example(), []int{-1, -1, -1}, 0, 0, api.ErrDown},
		{example(), []int{1, -1, -1}, 0, 0, api.ErrDown}, // north has a place left, and ann prefers it
		{example(), []int{1, -1, 0}, 0, 0, api.ErrDown},  // ann waits longer than cy
		{example(), []int{0, -1, 1}, 1, 0, api.ErrDown},  // it is ben's home
		{ring(), []int{0, 1}, 0, 0, api.OK},
		{ring(), []int{1, 0}, 0, 0, api.OK}, // each centre ranks the other one behind
		{ring(), []int{-1, 1}, 0, 0, api.ErrDown},
		{ring(), []int{0, -1}, 1, 1, api.ErrDown},
		// As many numbers as learners.
		{example(), nil, 0, 0, api.ErrLong},
		{example(), []int{}, 0, 0, api.ErrLong},
		{example(), []int{1, 7}, 0, 0, api.ErrLong},
		{example(), []int{1, 0, -1, -1}, 0, 0, api.ErrLong},
		{example(), []int{7, 0, -1, -1}, 0, 0, api.ErrLong},
		{plain(1, 0), nil, 0, 0, api.OK},
		{plain(1, 0), []int{}, 0, 0, api.OK},
		{plain(1, 0), []int{-1}, 0, 0, api.ErrLong},
		// No wish.
		{example(), []int{2, 0, -1}, 0, 0, api.ErrNone},
		{example(), []int{-2, 0, 5}, 0, 0, api.ErrNone},
		{example(), []int{0, math.MaxInt, 0}, 1, 0, api.ErrNone},
		{example(), []int{0, 0, math.MinInt}, 2, 0, api.ErrNone},
		{roomy, []int{0, 1, 1}, 1, 0, api.ErrNone}, // a centre that ben does not wish for
		{roomy, []int{2, 1, 1}, 0, 0, api.ErrNone},
		{plain(1, 2), []int{-1, -1}, 0, 0, api.OK},
		{plain(1, 2), []int{-1, 0}, 1, 0, api.ErrNone},
		// More learners than places: before all complaints.
		{example(), []int{0, 0, 1}, 0, 0, api.ErrRange},
		{example(), []int{1, 0, 1}, 0, 1, api.ErrRange},
		{example(), []int{-1, 0, 0}, 0, 0, api.ErrRange},
		{roomy, []int{0, 2, 2}, 0, 2, api.ErrRange},
		{roomy, []int{0, 0, 0}, 0, 0, api.ErrRange},
		{roomy, []int{1, 2, 1}, 0, 1, api.ErrRange},
		{roomy, []int{-1, 2, -1}, 0, 2, api.ErrRange},
		// Complaints: the first wish about which there is one, but none about a centre without places.
		{roomy, []int{0, 0, 1}, 0, 0, api.OK},
		{roomy, []int{1, 0, 0}, 2, 1, api.ErrDown}, // cy waits longer than ann
		{roomy, []int{0, 0, -1}, 0, 1, api.ErrDown},
		{roomy, []int{-1, 0, 1}, 0, 0, api.ErrDown}, // a place is left at 0
		{roomy, []int{0, -1, 1}, 1, 0, api.ErrDown},
		{roomy, []int{1, 0, -1}, 2, 1, api.ErrDown},
		{listOf([]int{1, 1}, learner("ann", 1, 0, 1), learner("ben", 2, 1, 0)), []int{1, 0}, 0, 0, api.ErrDown},
		{listOf([]int{1, 1}, learner("ann", 1, 1), learner("ben", 2, 1, 0), learner("cy", 3, 0)), []int{1, -1, 0}, 1, 0, api.ErrDown},
		{listOf([]int{0}, learner("ann", 1, 0)), []int{-1}, 0, 0, api.OK},
		{listOf([]int{0}, learner("ann", 1, 0)), []int{0}, 0, 0, api.ErrRange},
		{listOf([]int{1}, learner("ann", 1, 0)), []int{-1}, 0, 0, api.ErrDown},
	} {
		if who, at, e := queue.Accept(c.l, c.given); who != c.who || at != c.centre || e != c.e {
			t.Errorf("%d: Accept of %v = %d, %d, %d, not %d, %d, %d", i, c.given, who, at, e, c.who, c.centre, c.e)
		}
	}
}

// tangle is a list on which cy asks at 0 alone, puts ann out of it, and is put
// out by ben, whom ann puts out of 1.
func tangle() api.QuList {
	l := listOf([]int{1, 1}, learner("ann", 5, 0, 1), learner("ben", 7, 1, 0), learner("cy", 6, 0))
	l.Centres[0].Rules, l.Learners[1].Home = []int{api.QuHome, api.QuFails}, 0
	l.Learners[0].Fails = 1
	return l
}

// TestCancel checks what P12.6 says of Cancel.
func TestCancel(t *testing.T) {
	chain := listOf([]int{1, 1, 1}, learner("ann", 9, 2), learner("ben", 8, 1, 2), learner("cy", 7, 0, 1), learner("dan", 6, 0))
	for i, c := range []struct {
		l    api.QuList
		who  int
		want []api.QuMove
		e    api.Errno
	}{
		{example(), 0, []api.QuMove{{Learner: 2, From: -1, To: 1}}, api.OK},
		{example(), 1, []api.QuMove{{Learner: 0, From: 1, To: 0}, {Learner: 2, From: -1, To: 1}}, api.OK},
		{example(), 2, nil, api.OK},
		{chain, 0, nil, api.OK},
		{chain, 1, []api.QuMove{{Learner: 0, From: -1, To: 2}}, api.OK},
		{chain, 2, []api.QuMove{{Learner: 0, From: -1, To: 2}, {Learner: 1, From: 2, To: 1}}, api.OK},
		{chain, 3, []api.QuMove{{Learner: 0, From: -1, To: 2}, {Learner: 1, From: 2, To: 1}, {Learner: 2, From: 1, To: 0}}, api.OK},
		{ring(), 0, nil, api.OK},
		{listOf([]int{1}, learner("ann", 1, 0)), 0, nil, api.OK},
		// Cy is given nothing, and yet ann and ben change places if cy leaves.
		{tangle(), 2, []api.QuMove{{Learner: 0, From: 1, To: 0}, {Learner: 1, From: 0, To: 1}}, api.OK},
		{example(), 3, nil, api.ErrNone},
		{example(), -1, nil, api.ErrNone},
		{example(), math.MaxInt, nil, api.ErrNone},
		{example(), math.MinInt, nil, api.ErrNone},
		{plain(5, 0), 0, nil, api.ErrNone},
		{plain(1, 8), 7, nil, api.OK},
	} {
		if moves, e := queue.Cancel(c.l, c.who); !slices.Equal(moves, c.want) || e != c.e {
			t.Errorf("%d: Cancel of %d = %v, %d, not %v, %d", i, c.who, moves, e, c.want, c.e)
		}
	}
}

// TestOpen checks what P12.6 says of Open.
func TestOpen(t *testing.T) {
	for i, c := range []struct {
		l    api.QuList
		at   int
		want []api.QuMove
		e    api.Errno
	}{
		{example(), 0, []api.QuMove{{Learner: 0, From: 1, To: 0}, {Learner: 2, From: -1, To: 1}}, api.OK},
		{example(), 1, []api.QuMove{{Learner: 2, From: -1, To: 1}}, api.OK},
		{ring(), 0, nil, api.OK},
		{tangle(), 0, []api.QuMove{{Learner: 0, From: 1, To: 0}, {Learner: 1, From: 0, To: 1}, {Learner: 2, From: -1, To: 0}}, api.OK},
		{tangle(), 1, []api.QuMove{{Learner: 1, From: 0, To: 1}, {Learner: 2, From: -1, To: 0}}, api.OK},
		{listOf([]int{0}, learner("ann", 1, 0)), 0, []api.QuMove{{Learner: 0, From: -1, To: 0}}, api.OK},
		{listOf([]int{0}, learner("ann", 1)), 0, nil, api.OK},
		{listOf([]int{5, 0}, learner("ann", 1, 1, 0)), 0, nil, api.OK},
		{listOf([]int{5, 0}, learner("ann", 1, 1, 0)), 1, []api.QuMove{{Learner: 0, From: 0, To: 1}}, api.OK},
		{listOf([]int{6, 0}, learner("ann", 1, 1, 0)), 0, nil, api.ErrRange},
		{listOf([]int{6, 0}, learner("ann", 1, 1, 0)), 1, []api.QuMove{{Learner: 0, From: 0, To: 1}}, api.OK},
		{listOf([]int{6, 5}, learner("ann", 1, 1, 0)), 1, nil, api.OK},
		{listOf([]int{6, 6}), 1, nil, api.ErrRange},
		{listOf([]int{6, 6}), 2, nil, api.ErrNone},
		{example(), -1, nil, api.ErrNone},
		{example(), 2, nil, api.ErrNone},
		{example(), math.MaxInt, nil, api.ErrNone},
		{example(), math.MinInt, nil, api.ErrNone},
	} {
		if moves, e := queue.Open(c.l, c.at); !slices.Equal(moves, c.want) || e != c.e {
			t.Errorf("%d: Open of %d = %v, %d, not %v, %d", i, c.at, moves, e, c.want, c.e)
		}
	}
}

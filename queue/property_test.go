package queue_test

import (
	"math/rand"
	"slices"
	"testing"

	"bitepoint/api"
	"bitepoint/queue"
)

// give is what Give returns for a list without an error.
func give(t *testing.T, l api.QuList) []int {
	t.Helper()
	given, e := queue.Give(l)
	if e != api.OK || len(given) != len(l.Learners) {
		t.Fatalf("%v: Give = %v, %d", l, given, e)
	}
	return given
}

// cut is what Cut returns for a list without an error.
func cut(t *testing.T, l api.QuList) []int {
	t.Helper()
	cuts, e := queue.Cut(l)
	if e != api.OK || len(cuts) != len(l.Centres) {
		t.Fatalf("%v: Cut = %v, %d", l, cuts, e)
	}
	return cuts
}

// order is what Order returns for a centre of a list without an error.
func order(t *testing.T, l api.QuList, centre int) []int {
	t.Helper()
	all, e := queue.Order(l, centre)
	if e != api.OK || len(all) != len(l.Learners) {
		t.Fatalf("%v: Order of %d = %v, %d", l, centre, all, e)
	}
	return all
}

// accepted are all distributions of a list that Accept accepts.
func accepted(t *testing.T, l api.QuList) [][]int {
	t.Helper()
	return slices.DeleteFunc(distributions(l), func(given []int) bool {
		_, _, e := queue.Accept(l, given)
		return e != api.OK
	})
}

// wishing is a list on which a learner has other wishes.
func wishing(l api.QuList, learner int, wishes []int) api.QuList {
	l = cloneList(l)
	l.Learners[learner].Wishes = wishes
	return l
}

// TestFair checks P12.7 with lists of any size.
func TestFair(t *testing.T) {
	r := rand.New(rand.NewSource(127))
	great := 0
	for range 10000 {
		l := randomList(r, 5, 8)
		given := give(t, l)
		if who, at, e := queue.Accept(l, given); who != 0 || at != 0 || e != api.OK {
			t.Fatalf("%v: Accept of %v = %d, %d, %d", l, given, who, at, e)
		}
		if len(l.Centres) == 5 && len(l.Learners) == 8 {
			great++
		}
	}
	if great < 100 {
		t.Errorf("only %d lists have the most centres and learners", great)
	}
}

// TestBest checks P12.8 and P12.12: in no accepted distribution is a learner
// given something better, nobody else is given nothing, and each centre is given
// as often.
func TestBest(t *testing.T) {
	r := rand.New(rand.NewSource(128))
	several, none := 0, 0
	for range 2500 {
		l := randomList(r, 4, 5)
		best := give(t, l)
		all := accepted(t, l)
		for _, other := range all {
			for i := range l.Learners {
				if prefers(l, i, other[i], best[i]) || (other[i] == -1) != (best[i] == -1) {
					t.Fatalf("%v: Give = %v, and Accept accepts %v", l, best, other)
				}
			}
			for at := range l.Centres {
				if manyAt(other, at) != manyAt(best, at) {
					t.Fatalf("%v: Give = %v, and Accept accepts %v", l, best, other)
				}
			}
		}
		if len(all) > 1 {
			several++
			none += min(1, manyAt(best, -1))
		}
	}
	if several < 50 || none < 20 {
		t.Errorf("only %d lists have several fair distributions, %d of them with a learner who is given nothing", several, none)
	}
}

// wishLists are all lists of centres that a learner can wish for.
func wishLists(centres int) [][]int {
	lists := [][]int{nil}
	for at := 0; at < len(lists); at++ {
		for centre := range centres {
			if !slices.Contains(lists[at], centre) {
				lists = append(lists, append(slices.Clone(lists[at]), centre))
			}
		}
	}
	return lists
}

// TestNobodyGains checks P12.9: a learner wishes for anything else, and is given
// nothing better.
func TestNobodyGains(t *testing.T) {
	r := rand.New(rand.NewSource(129))
	losses, same := 0, 0
	for range 400 {
		l := randomList(r, 5, 8)
		if len(l.Learners) == 0 {
			continue
		}
		who, given := r.Intn(len(l.Learners)), give(t, l)
		for _, wishes := range wishLists(len(l.Centres)) {
			other := give(t, wishing(l, who, wishes))
			if prefers(l, who, other[who], given[who]) {
				t.Fatalf("%v: %d is given %d, and who wishes for %v, %d", l, who, given[who], wishes, other[who])
			}
			if other[who] == given[who] {
				same++
			} else {
				losses++
			}
		}
	}
	if losses < 5000 || same < 5000 {
		t.Errorf("only %d other wishes led to something worse, and %d to the same", losses, same)
	}
}

// TestPrinted checks P12.10: the cuts tell who is given what.
func TestPrinted(t *testing.T) {
	r := rand.New(rand.NewSource(1210))
	some, none := 0, 0
	for range 6000 {
		l := randomList(r, 5, 8)
		given, cuts := give(t, l), cut(t, l)
		orders := make([][]int, len(l.Centres))
		for at := range l.Centres {
			orders[at] = order(t, l, at)
		}
		for i, one := range l.Learners {
			told := -1
			for _, wish := range slices.Backward(one.Wishes) {
				if rank := slices.Index(orders[wish], i) + 1; rank <= cuts[wish] {
					told = wish
				}
			}
			if told != given[i] {
				t.Fatalf("%v: Give = %v, but by %v %d is given %d", l, given, cuts, i, told)
			}
			switch {
			case told >= 0:
				some++
			case len(one.Wishes) > 0:
				none++
			}
		}
	}
	if some < 5000 || none < 2000 {
		t.Errorf("only %d learners were given a centre, and %d with wishes none", some, none)
	}
}

// TestCancellations checks P12.11: if somebody leaves, or a centre has a place
// more, each move is from what was given to what is better, in the order of the
// learners; the moves of Open lead to what Give returns then.
func TestCancellations(t *testing.T) {
	r := rand.New(rand.NewSource(1211))
	cancelled, opened := 0, 0
	for range 4000 {
		l := randomList(r, 5, 8)
		given := give(t, l)
		for i := range l.Learners {
			moves, e := queue.Cancel(l, i)
			if e != api.OK || slices.ContainsFunc(moves, func(m api.QuMove) bool { return m.Learner == i }) {
				t.Fatalf("%v: Cancel of %d = %v, %d", l, i, moves, e)
			}
			checkMoves(t, l, given, moves)
			cancelled += min(1, len(moves))
		}
		for at, c := range l.Centres {
			moves, e := queue.Open(l, at)
			if c.Places == 6 {
				if moves != nil || e != api.ErrRange {
					t.Fatalf("%v: Open of %d = %v, %d", l, at, moves, e)
				}
				continue
			}
			checkMoves(t, l, given, moves)
			larger, after := cloneList(l), slices.Clone(given)
			larger.Centres[at].Places++
			for _, m := range moves {
				after[m.Learner] = m.To
			}
			if then := give(t, larger); !slices.Equal(after, then) || e != api.OK {
				t.Fatalf("%v: Open of %d = %v, %d, and then Give = %v", l, at, moves, e, then)
			}
			opened += min(1, len(moves))
		}
	}
	if cancelled < 3000 || opened < 2000 {
		t.Errorf("only %d learners who left, and %d places, led to moves", cancelled, opened)
	}
}

// checkMoves checks that moves are in order, and each one from what was given to
// what is better.
func checkMoves(t *testing.T, l api.QuList, given []int, moves []api.QuMove) {
	t.Helper()
	for n, m := range moves {
		if n > 0 && m.Learner <= moves[n-1].Learner || m.From != given[m.Learner] || !prefers(l, m.Learner, m.To, m.From) {
			t.Fatalf("%v: Give = %v, and the moves are %v", l, given, moves)
		}
	}
}

// TestInAnyOrder checks P12.13: learners in another order are given the same,
// have the same ranks, and make the same moves.
func TestInAnyOrder(t *testing.T) {
	r := rand.New(rand.NewSource(1213))
	for range 3000 {
		l := randomList(r, 5, 8)
		other, to := cloneList(l), r.Perm(len(l.Learners))
		for i, one := range l.Learners {
			other.Learners[to[i]] = one
		}
		a, b := give(t, l), give(t, other)
		for i := range l.Learners {
			if a[i] != b[to[i]] {
				t.Fatalf("%v: Give = %v, and in the order %v %v", l, a, to, b)
			}
		}
		for at := range l.Centres {
			moved := order(t, l, at)
			for rank, i := range moved {
				moved[rank] = to[i]
			}
			if is := order(t, other, at); !slices.Equal(is, moved) {
				t.Fatalf("%v: in the order %v Order of %d = %v, not %v", l, to, at, is, moved)
			}
		}
		if a, b := cut(t, l), cut(t, other); !slices.Equal(a, b) {
			t.Fatalf("%v: Cut = %v, and in the order %v %v", l, a, to, b)
		}
	}
}

// TestFewerWishes checks P12.13: who asks for fewer centres, but still for the
// one that they got, gets it.
func TestFewerWishes(t *testing.T) {
	r := rand.New(rand.NewSource(12131))
	fewer := 0
	for range 1000 {
		l := randomList(r, 5, 8)
		given := give(t, l)
		for i, one := range l.Learners {
			for kept := range 1 << len(one.Wishes) {
				var wishes []int
				for at, wish := range one.Wishes {
					if kept&(1<<at) != 0 {
						wishes = append(wishes, wish)
					}
				}
				if !slices.Contains(wishes, given[i]) || len(wishes) == len(one.Wishes) {
					continue
				}
				fewer++
				if then := give(t, wishing(l, i, wishes)); then[i] != given[i] {
					t.Fatalf("%v: %d is given %d, and who wishes for %v, %d", l, i, given[i], wishes, then[i])
				}
			}
		}
	}
	if fewer < 5000 {
		t.Errorf("only %d learners asked for fewer centres", fewer)
	}
}

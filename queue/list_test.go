package queue_test

import (
	"math"
	"slices"
	"strings"
	"testing"

	"bitepoint/api"
	"bitepoint/queue"
)

// plain is a list of so many centres and learners, who wish for nothing.
func plain(centres, learners int) api.QuList {
	var l api.QuList
	for at := range centres {
		l.Centres = append(l.Centres, centre("c"+learnerNames[at], 1))
	}
	for at := range learners {
		l.Learners = append(l.Learners, learner(learnerNames[at], 0))
	}
	return l
}

// checkCases are changes of the example, and where its first error is then.
var checkCases = []struct {
	change   func(l *api.QuList)
	part, at int
	e        api.Errno
}{
	{func(l *api.QuList) {}, 0, 0, api.OK},
	// How many there are.
	{func(l *api.QuList) { *l = api.QuList{} }, 1, 0, api.ErrLong},
	{func(l *api.QuList) { l.Centres, l.Learners[0].Name = []api.QuCentre{}, "" }, 1, 0, api.ErrLong},
	{func(l *api.QuList) { *l = plain(1, 0) }, 0, 0, api.OK},
	{func(l *api.QuList) { *l = plain(1, 0); l.Learners = []api.QuLearner{} }, 0, 0, api.OK},
	{func(l *api.QuList) { *l = plain(5, 8) }, 0, 0, api.OK},
	{func(l *api.QuList) { *l = plain(6, 8); l.Centres[0].Name = "" }, 1, 0, api.ErrLong},
	{func(l *api.QuList) { *l = plain(5, 9); l.Centres[0].Name = "" }, 1, 0, api.ErrLong},
	{func(l *api.QuList) { *l = plain(1, 9); l.Learners[0].Since = -1 }, 1, 0, api.ErrLong},
	{func(l *api.QuList) { *l = plain(0, 9) }, 1, 0, api.ErrLong},
	// Names of centres.
	{func(l *api.QuList) { l.Centres[0].Name, l.Centres[0].Places, l.Centres[0].Rules = "", 7, []int{3} }, 2, 0, api.ErrForm},
	{func(l *api.QuList) { l.Centres[1].Name = "South" }, 2, 1, api.ErrForm},
	{func(l *api.QuList) { l.Centres[1].Name = "1st" }, 2, 1, api.ErrForm},
	{func(l *api.QuList) { l.Centres[1].Name = strings.Repeat("s", 16) }, 0, 0, api.OK},
	{func(l *api.QuList) { l.Centres[1].Name = strings.Repeat("s", 17) }, 2, 1, api.ErrForm},
	{func(l *api.QuList) { l.Centres[1].Name, l.Centres[1].Places = "north", 7 }, 2, 1, api.ErrTwice},
	{func(l *api.QuList) { l.Centres[1].Name = "ann" }, 0, 0, api.OK}, // a centre and a learner can have the same name
	{func(l *api.QuList) { l.Centres[0].Name, l.Centres[1].Name = "N", "N" }, 2, 0, api.ErrForm},
	{func(l *api.QuList) { l.Centres[0].Places, l.Centres[1].Name = 7, "" }, 2, 0, api.ErrRange},
	// Places.
	{func(l *api.QuList) { l.Centres[0].Places, l.Centres[1].Places = 0, 6 }, 0, 0, api.OK},
	{func(l *api.QuList) { l.Centres[0].Places, l.Centres[0].Rules = -1, []int{3} }, 2, 0, api.ErrRange},
	{func(l *api.QuList) { l.Centres[1].Places, l.Centres[1].Rules = 7, []int{0, 0} }, 2, 1, api.ErrRange},
	{func(l *api.QuList) { l.Centres[1].Places = math.MaxInt }, 2, 1, api.ErrRange},
	{func(l *api.QuList) { l.Centres[1].Places = math.MinInt }, 2, 1, api.ErrRange},
	// Rules.
	{func(l *api.QuList) { l.Centres[0].Rules, l.Centres[1].Rules = nil, []int{2, 1, 0} }, 0, 0, api.OK},
	{func(l *api.QuList) { l.Centres[0].Rules = []int{0, 3, 0} }, 2, 0, api.ErrNone},
	{func(l *api.QuList) { l.Centres[0].Rules = []int{0, -1} }, 2, 0, api.ErrNone},
	{func(l *api.QuList) { l.Centres[1].Rules = []int{math.MinInt} }, 2, 1, api.ErrNone},
	{func(l *api.QuList) { l.Centres[1].Rules = []int{math.MaxInt, math.MaxInt} }, 2, 1, api.ErrNone},
	{func(l *api.QuList) { l.Centres[0].Rules = []int{2, 0, 2, 3} }, 2, 0, api.ErrTwice},
	{func(l *api.QuList) { l.Centres[1].Rules = []int{1, 1} }, 2, 1, api.ErrTwice},
	{func(l *api.QuList) { l.Centres[1].Rules = []int{0, 1, 2, 0} }, 2, 1, api.ErrTwice},
	{func(l *api.QuList) { l.Centres[1].Rules, l.Learners[0].Name = []int{0, 1, 2, 3}, "" }, 2, 1, api.ErrNone},
	// Names of learners.
	{func(l *api.QuList) { l.Learners[0].Name, l.Learners[0].Since = "", -1 }, 3, 0, api.ErrForm},
	{func(l *api.QuList) { l.Learners[2].Name, l.Learners[2].Home = "c y", 5 }, 3, 2, api.ErrForm},
	{func(l *api.QuList) { l.Learners[2].Name, l.Learners[2].Fails = "ann", 21 }, 3, 2, api.ErrTwice},
	{func(l *api.QuList) { l.Learners[1].Name, l.Learners[2].Name = "ann", "" }, 3, 1, api.ErrTwice},
	{func(l *api.QuList) { l.Learners[2].Name = "north" }, 0, 0, api.OK},
	// Since and Fails.
	{func(l *api.QuList) { l.Learners[0].Since, l.Learners[1].Since = 0, 40000 }, 0, 0, api.OK},
	{func(l *api.QuList) { l.Learners[0].Since, l.Learners[0].Home = -1, 2 }, 3, 0, api.ErrRange},
	{func(l *api.QuList) { l.Learners[1].Since = 40001 }, 3, 1, api.ErrRange},
	{func(l *api.QuList) { l.Learners[1].Since = math.MinInt }, 3, 1, api.ErrRange},
	{func(l *api.QuList) { l.Learners[0].Fails, l.Learners[1].Fails = 0, 20 }, 0, 0, api.OK},
	{func(l *api.QuList) { l.Learners[2].Fails, l.Learners[2].Home = 21, -2 }, 3, 2, api.ErrRange},
	{func(l *api.QuList) { l.Learners[2].Fails, l.Learners[2].Wishes = -1, []int{2} }, 3, 2, api.ErrRange},
	{func(l *api.QuList) { l.Learners[2].Fails = math.MaxInt }, 3, 2, api.ErrRange},
	// Home.
	{func(l *api.QuList) { l.Learners[0].Home, l.Learners[1].Home = -1, 1 }, 0, 0, api.OK},
	{func(l *api.QuList) { l.Learners[1].Home, l.Learners[1].Wishes = 2, []int{0, 0} }, 3, 1, api.ErrNone},
	{func(l *api.QuList) { l.Learners[1].Home = -2 }, 3, 1, api.ErrNone},
	{func(l *api.QuList) { l.Learners[1].Home = math.MaxInt }, 3, 1, api.ErrNone},
	{func(l *api.QuList) { l.Learners[1].Home = math.MinInt }, 3, 1, api.ErrNone},
	// Wishes.
	{func(l *api.QuList) { l.Learners[0].Wishes, l.Learners[1].Wishes = nil, []int{1} }, 0, 0, api.OK},
	{func(l *api.QuList) { l.Learners[0].Wishes = []int{0, 2, 0} }, 3, 0, api.ErrNone},
	{func(l *api.QuList) { l.Learners[0].Wishes = []int{-1} }, 3, 0, api.ErrNone},
	{func(l *api.QuList) { l.Learners[2].Wishes = []int{math.MaxInt} }, 3, 2, api.ErrNone},
	{func(l *api.QuList) { l.Learners[2].Wishes = []int{math.MinInt} }, 3, 2, api.ErrNone},
	{func(l *api.QuList) { l.Learners[2].Wishes = []int{1, 1, 2} }, 3, 2, api.ErrTwice},
	{func(l *api.QuList) { l.Learners[1].Wishes, l.Learners[2].Name = []int{1, 0, 1}, "" }, 3, 1, api.ErrTwice},
	{func(l *api.QuList) { l.Learners[2].Wishes = slices.Repeat([]int{1, 0}, 1000000) }, 3, 2, api.ErrTwice},
}

// TestCheck checks P12.1, and that all functions return its error first.
func TestCheck(t *testing.T) {
	for i, c := range checkCases {
		l := example()
		c.change(&l)
		if part, at, e := queue.Check(l); part != c.part || at != c.at || e != c.e {
			t.Errorf("%d: Check = %d, %d, %d, not %d, %d, %d", i, part, at, e, c.part, c.at, c.e)
		}
		// What the functions return first of their own errors comes behind it.
		after := func(e api.Errno) api.Errno {
			if c.e != api.OK {
				return c.e
			}
			return e
		}
		if order, e := queue.Order(l, -1); order != nil || e != after(api.ErrNone) {
			t.Errorf("%d: Order = %v, %d", i, order, e)
		}
		if given, e := queue.Give(l); e != c.e || e != api.OK && given != nil {
			t.Errorf("%d: Give = %v, %d", i, given, e)
		}
		if who, at, e := queue.Accept(l, make([]int, len(l.Learners)+1)); who != 0 || at != 0 || e != after(api.ErrLong) {
			t.Errorf("%d: Accept = %d, %d, %d", i, who, at, e)
		}
		if cut, e := queue.Cut(l); e != c.e || e != api.OK && cut != nil {
			t.Errorf("%d: Cut = %v, %d", i, cut, e)
		}
		if moves, e := queue.Cancel(l, -1); moves != nil || e != after(api.ErrNone) {
			t.Errorf("%d: Cancel = %v, %d", i, moves, e)
		}
		if moves, e := queue.Open(l, -1); moves != nil || e != after(api.ErrNone) {
			t.Errorf("%d: Open = %v, %d", i, moves, e)
		}
	}
}

// with is a learner with a home and fails.
func with(l api.QuLearner, home, fails int) api.QuLearner {
	l.Home, l.Fails = home, fails
	return l
}

// TestOrder checks P12.2.
func TestOrder(t *testing.T) {
	// By Since ann, dan and bob, cy; by Home 1 bob and cy; by Fails cy, dan, ann and bob.
	all := []api.QuLearner{with(learner("dan", 20), -1, 2), with(learner("cy", 30), 1, 0), with(learner("bob", 20), 1, 20), with(learner("ann", 0), 0, 20)}
	const dan, cy, bob, ann = 0, 1, 2, 3
	for i, c := range []struct {
		rules []int
		home  int // the index of the centre that ranks
		want  []int
	}{
		{nil, 1, []int{ann, bob, cy, dan}},
		{[]int{api.QuSince}, 1, []int{ann, bob, dan, cy}},
		{[]int{api.QuHome}, 1, []int{bob, cy, ann, dan}},
		{[]int{api.QuHome}, 0, []int{ann, bob, cy, dan}},
		{[]int{api.QuHome}, 2, []int{ann, bob, cy, dan}},
		{[]int{api.QuFails}, 1, []int{cy, dan, ann, bob}},
		{[]int{api.QuSince, api.QuHome}, 1, []int{ann, bob, dan, cy}},
		{[]int{api.QuSince, api.QuFails}, 1, []int{ann, dan, bob, cy}},
		{[]int{api.QuSince, api.QuHome, api.QuFails}, 1, []int{ann, bob, dan, cy}},
		{[]int{api.QuSince, api.QuFails, api.QuHome}, 1, []int{ann, dan, bob, cy}},
		{[]int{api.QuHome, api.QuSince}, 1, []int{bob, cy, ann, dan}},
		{[]int{api.QuHome, api.QuFails}, 1, []int{cy, bob, dan, ann}},
		{[]int{api.QuHome, api.QuFails}, 0, []int{ann, cy, dan, bob}},
		{[]int{api.QuFails, api.QuSince}, 1, []int{cy, dan, ann, bob}},
		{[]int{api.QuFails, api.QuHome}, 1, []int{cy, dan, bob, ann}},
		{[]int{api.QuFails, api.QuHome}, 0, []int{cy, dan, ann, bob}},
	} {
		l := plain(3, 0)
		l.Learners = all
		for at := range l.Centres {
			l.Centres[at].Rules = []int{(i + at) % 3}
		}
		l.Centres[c.home].Rules = c.rules
		if order, e := queue.Order(l, c.home); !slices.Equal(order, c.want) || e != api.OK {
			t.Errorf("%d: Order = %v, %d, not %v", i, order, e, c.want)
		}
	}
	for at, want := range [][]int{{1, 0, 2}, {0, 2, 1}} {
		if order, e := queue.Order(example(), at); !slices.Equal(order, want) || e != api.OK {
			t.Errorf("the example: Order of %d = %v, %d, not %v", at, order, e, want)
		}
	}
	for _, at := range []int{-1, 2, math.MaxInt, math.MinInt} {
		if order, e := queue.Order(example(), at); order != nil || e != api.ErrNone {
			t.Errorf("Order of %d = %v, %d", at, order, e)
		}
	}
	if order, e := queue.Order(plain(1, 0), 0); len(order) != 0 || e != api.OK {
		t.Errorf("Order without learners = %v, %d", order, e)
	}
}

// TestOrderOfNames checks that names are told apart byte by byte: a name is
// before all that it begins, and a digit before all letters.
func TestOrderOfNames(t *testing.T) {
	l := plain(1, 0)
	for _, name := range []string{"b", "aa", "a9b", "a", "a10", "ab0", "a9", "aab", "z", "a0"} {
		l.Learners = append(l.Learners, learner(name, 7))
	}
	sorted := []string{"a", "a0", "a10", "a9", "a9b", "aa", "aab", "ab0", "b", "z"}
	for _, part := range [][]api.QuLearner{l.Learners[:8], l.Learners[2:]} {
		l.Learners = part
		order, e := queue.Order(l, 0)
		var names []string
		for _, i := range order {
			names = append(names, l.Learners[i].Name)
		}
		want := slices.DeleteFunc(slices.Clone(sorted), func(name string) bool { return !slices.Contains(names, name) })
		if len(names) != 8 || !slices.Equal(names, want) || e != api.OK {
			t.Errorf("Order = %v, %d, not %v", names, e, want)
		}
	}
}

package queue_test

import (
	"math"
	"math/rand"
	"reflect"
	"slices"
	"strings"
	"testing"

	"bitepoint/api"
	"bitepoint/queue"
)

// wild are numbers that are at the ends of ranges, or far beyond them.
var wild = []int{0, 1, -1, -2, 2, 3, 4, 5, 6, 7, 8, 9, 20, 21, 40000, 40001, math.MinInt, math.MinInt + 1, math.MaxInt, math.MaxInt - 1, 1 << 32, -1 << 31}

// wildNumber is one of them.
func wildNumber(r *rand.Rand) int { return wild[r.Intn(len(wild))] }

// wildName is a name, or a string that is none.
func wildName(r *rand.Rand) string {
	return []string{"a", "b", "ca", "z9", "", "A", "9", "a b", "a\x00", "ä", "\xff", strings.Repeat("a", 16), strings.Repeat("a", 17)}[r.Intn(13)]
}

// wildNumbers are a list with one of its numbers changed, or with more or fewer
// of them.
func wildNumbers(r *rand.Rand, list []int) []int {
	list = slices.Clone(list)
	switch kind := r.Intn(4); {
	case kind == 0:
		return append(list, wildNumber(r))
	case kind == 1 && len(list) > 0:
		return append(list, list[0])
	case kind == 2 && len(list) > 0:
		list[r.Intn(len(list))] = wildNumber(r)
		return list
	case kind == 3 && len(list) > 0:
		return list[1:]
	}
	return nil
}

// arguments are what the functions are called with.
type arguments struct {
	l           api.QuList
	at, learner int
	given       []int
}

// wildArguments are arguments that are often not valid.
func wildArguments(r *rand.Rand) arguments {
	a := arguments{l: randomList(r, 5, 8), at: r.Intn(5), learner: r.Intn(8)}
	a.given, _ = queue.Give(a.l)
	for range r.Intn(3) {
		switch r.Intn(5) {
		case 0:
			a.at = wildNumber(r)
		case 1:
			a.learner = wildNumber(r)
		case 2:
			a.given = wildNumbers(r, a.given)
		case 3:
			if len(a.given) > 0 {
				a.given[r.Intn(len(a.given))] = r.Intn(len(a.l.Centres)+1) - 1
			}
		case 4:
			a.spoilList(r)
		}
	}
	return a
}

// spoilList changes something in the list.
func (a *arguments) spoilList(r *rand.Rand) {
	if len(a.l.Centres) == 0 || len(a.l.Learners) == 0 {
		return
	}
	c, i := &a.l.Centres[r.Intn(len(a.l.Centres))], &a.l.Learners[r.Intn(len(a.l.Learners))]
	switch r.Intn(10) {
	case 0:
		c.Name = wildName(r)
	case 1:
		c.Places = wildNumber(r)
	case 2:
		c.Rules = wildNumbers(r, c.Rules)
	case 3:
		i.Name = wildName(r)
	case 4:
		i.Since = wildNumber(r)
	case 5:
		i.Home = wildNumber(r)
	case 6:
		i.Fails = wildNumber(r)
	case 7:
		i.Wishes = wildNumbers(r, i.Wishes)
	case 8:
		a.l.Centres = slices.Repeat(a.l.Centres, r.Intn(7))
	case 9:
		a.l.Learners = slices.Repeat(a.l.Learners, r.Intn(10))
	}
}

// clone is a copy of arguments, without shared memory.
func (a arguments) clone() arguments {
	a.l, a.given = cloneList(a.l), slices.Clone(a.given)
	return a
}

// result is what a function returns, and its error.
type result struct {
	value any
	e     api.Errno
}

// results are the results of all functions but Check and Accept, whose indices
// are not zero with an error.
func (a arguments) results() []result {
	order, e1 := queue.Order(a.l, a.at)
	given, e2 := queue.Give(a.l)
	cuts, e3 := queue.Cut(a.l)
	cancelled, e4 := queue.Cancel(a.l, a.learner)
	opened, e5 := queue.Open(a.l, a.at)
	return []result{{order, e1}, {given, e2}, {cuts, e3}, {cancelled, e4}, {opened, e5}}
}

// places are the results of Check and Accept, which say where an error is.
type places struct{ part, at, learner, centre, check, accept int }

// places are these results.
func (a arguments) places() places {
	part, at, e := queue.Check(a.l)
	learner, centre, f := queue.Accept(a.l, a.given)
	return places{part, at, learner, centre, int(e), int(f)}
}

// errorsOfList are the errors that Check returns, and so do all functions.
var errorsOfList = []api.Errno{api.OK, api.ErrLong, api.ErrNone, api.ErrTwice, api.ErrForm, api.ErrRange}

// TestAnyArguments checks P12.14 and P1: all functions accept any arguments, do
// not change them, return the same for the same ones, and nothing with an
// error.
func TestAnyArguments(t *testing.T) {
	r := rand.New(rand.NewSource(1214))
	returned := make([]map[api.Errno]int, 7)
	for i := range returned {
		returned[i] = map[api.Errno]int{}
	}
	for range 20000 {
		a := wildArguments(r)
		old := a.clone()
		first, where := a.results(), a.places()
		if second := a.results(); !reflect.DeepEqual(first, second) || where != a.places() {
			t.Fatalf("%v: %v, %v, then %v, %v", a, first, where, second, a.places())
		}
		if !reflect.DeepEqual(a, old) {
			t.Fatalf("arguments have changed: %v, not %v", a, old)
		}
		if e := where.check; e == 0 && (where.part != 0 || where.at != 0) || e != 0 && (where.part < 1 || where.part > 3 || where.accept != e) {
			t.Fatalf("%v: Check and Accept = %v", a, where)
		}
		if where.accept != int(api.ErrDown) && where.learner != 0 && where.centre != 0 || where.check != 0 && (where.learner != 0 || where.centre != 0) {
			t.Fatalf("%v: Accept = %v", a, where)
		}
		for i, one := range append(first, result{nil, api.Errno(where.check)}, result{nil, api.Errno(where.accept)}) {
			returned[i][one.e]++
			if one.e != api.OK && one.value != nil && !reflect.ValueOf(one.value).IsZero() {
				t.Fatalf("%v: the function %d returns %v with the error %d", a, i, one.value, one.e)
			}
		}
	}
	for i, many := range returned {
		errors := errorsOfList
		if i == len(returned)-1 {
			errors = append(slices.Clone(errors), api.ErrDown)
		}
		for _, e := range errors {
			if many[e] < 50 {
				t.Errorf("the function %d returns %d only %d times", i, e, many[e])
			}
		}
		if len(many) != len(errors) {
			t.Errorf("the function %d returns %v", i, many)
		}
	}
}

// spoil overwrites a slice, and all that lies behind it in the same memory.
func spoil[T any](list []T, with T) {
	list = list[:cap(list)]
	for i := range list {
		list[i] = with
	}
}

// TestResultsAreNewMemory checks P12.14: it overwrites results, and neither
// arguments nor further results change.
func TestResultsAreNewMemory(t *testing.T) {
	grown := func(list []int) []int { return slices.Grow(list, 8) }
	l := example()
	for i := range l.Centres {
		l.Centres[i].Rules = grown(l.Centres[i].Rules)
	}
	for i := range l.Learners {
		l.Learners[i].Wishes = grown(l.Learners[i].Wishes)
	}
	l.Centres, l.Learners = slices.Grow(l.Centres, 8), slices.Grow(l.Learners, 8)
	given, bad := grown([]int{1, 0, -1}), api.QuMove{Learner: -99, From: -99, To: -99}
	for range 2 {
		for at, want := range [][]int{{1, 0, 2}, {0, 2, 1}} {
			all, e := queue.Order(l, at)
			if !slices.Equal(all, want) || e != api.OK {
				t.Fatalf("Order of %d = %v, %d", at, all, e)
			}
			spoil(all, -99)
		}
		if _, _, e := queue.Accept(l, given); e != api.OK {
			t.Fatalf("Accept = %d", e)
		}
		best, e := queue.Give(l)
		if !slices.Equal(best, given) || e != api.OK {
			t.Fatalf("Give = %v, %d", best, e)
		}
		spoil(best, -99)
		cuts, e := queue.Cut(l)
		if !slices.Equal(cuts, []int{1, 1}) || e != api.OK {
			t.Fatalf("Cut = %v, %d", cuts, e)
		}
		spoil(cuts, -99)
		moves, e := queue.Cancel(l, 1)
		if !slices.Equal(moves, []api.QuMove{{Learner: 0, From: 1, To: 0}, {Learner: 2, From: -1, To: 1}}) || e != api.OK {
			t.Fatalf("Cancel = %v, %d", moves, e)
		}
		spoil(moves, bad)
		moves, e = queue.Open(l, 1)
		if !slices.Equal(moves, []api.QuMove{{Learner: 2, From: -1, To: 1}}) || e != api.OK {
			t.Fatalf("Open = %v, %d", moves, e)
		}
		spoil(moves, bad)
		if !reflect.DeepEqual(l, example()) || !slices.Equal(given, []int{1, 0, -1}) {
			t.Fatalf("a result shares the memory of an argument: %v, %v", l, given)
		}
	}
}

package book_test

import (
	"math"
	"math/rand"
	"reflect"
	"slices"
	"testing"

	"bitepoint/api"
	"bitepoint/book"
)

// wild are numbers that are at the ends of ranges, or far beyond them.
var wild = []int{0, 1, -1, 2, 3, 4, 5, 6, 7, 8, 24, 25, 200, 201, 240, 241, 255, 256, 400, 401, 1000, 1001, 4799, 4800, 4801, 10000, 10001, 1000000, 1000001, 10000000, 10000001, math.MinInt, math.MinInt + 1, math.MaxInt, math.MaxInt - 1, 1 << 32, -1 << 31}

// wildNumber is one of them.
func wildNumber(r *rand.Rand) int { return wild[r.Intn(len(wild))] }

// arguments are what the functions are called with.
type arguments struct {
	s                         api.BkSchool
	events                    []api.BkEvent
	learner, car, from, hours int
}

// wildArguments are arguments that are often not valid.
func wildArguments(r *rand.Rand) arguments {
	s, events, _, _ := randomEvents(r, r.Intn(65))
	a := arguments{s: s, events: events, learner: r.Intn(len(s.Learners)), car: r.Intn(len(s.Cars)), from: r.Intn(4801), hours: 1 + r.Intn(4)}
	for _, n := range []*int{&a.learner, &a.car, &a.from, &a.hours} {
		if r.Intn(12) == 0 {
			*n = wildNumber(r)
		}
	}
	if r.Intn(3) == 0 {
		spoilSchool(r, &a.s)
	}
	for i := range a.events {
		if r.Intn(40) == 0 {
			a.events[i] = api.BkEvent{Kind: r.Intn(7), At: wildNumber(r), Learner: wildNumber(r), Car: wildNumber(r), Booking: wildNumber(r), Start: wildNumber(r), Hours: wildNumber(r), Day: wildNumber(r), Weather: wildNumber(r), Km: wildNumber(r), Cents: wildNumber(r)}
		}
	}
	return a
}

// spoilSchool makes a school mostly not valid.
func spoilSchool(r *rand.Rand, s *api.BkSchool) {
	words := []string{"", "a", "na", "nb", "A", "\xff", "a b", "abcdefghijklmnopq"}
	switch r.Intn(10) {
	case 0:
		s.Learners = append(s.Learners, words[r.Intn(len(words))])
	case 1:
		s.Learners = names(r.Intn(12))
	case 2:
		s.Cars = cars(r.Intn(8))
	case 3:
		s.Cars[0].Name = words[r.Intn(len(words))]
	case 4:
		s.Cars[0].Km, s.Cars[0].Every, s.Cars[0].Never = wildNumber(r), wildNumber(r), wildNumber(r)
	case 5:
		s.Price, s.Excess = wildNumber(r), wildNumber(r)
	case 6:
		s.Open = api.Span{Lo: wildNumber(r), Hi: wildNumber(r)}
	case 7:
		s.Terms = append(s.Terms, api.BkTerm{Before: wildNumber(r), Fee: wildNumber(r)})
	case 8:
		s.Terms = terms(r.Intn(7))
	case 9:
		*s = api.BkSchool{}
	}
}

// clone is a copy of arguments, without shared memory.
func (a arguments) clone() arguments {
	a.s, a.events = cloneSchool(a.s), slices.Clone(a.events)
	return a
}

// result is what a function returns, and its error.
type result struct {
	values []any
	e      api.Errno
}

// results are the results of all functions but Check.
func (a arguments) results() []result {
	fee, e1 := book.Fee(a.s, a.hours, a.from)
	refusals, state, e2 := book.Run(a.s, a.events)
	postings, e3 := book.Postings(a.s, a.events)
	hour, e4 := book.First(a.s, a.events, a.learner, a.car, a.from, a.hours)
	return []result{{[]any{fee}, e1}, {[]any{refusals, state}, e2}, {[]any{postings}, e3}, {[]any{hour}, e4}}
}

// TestAnyArguments checks P5.14 and P1: all functions accept any arguments, do
// not change them, return the same for the same ones, and nothing with an
// error.
func TestAnyArguments(t *testing.T) {
	r := rand.New(rand.NewSource(514))
	failed := make([]int, 4)
	for range 4000 {
		a := wildArguments(r)
		old := a.clone()
		first := a.results()
		if second := a.results(); !reflect.DeepEqual(first, second) {
			t.Fatalf("%v: %v, then %v", a, first, second)
		}
		if part, at, e := book.Check(a.s); e == api.OK && (part != 0 || at != 0) || e != api.OK && part == 0 {
			t.Fatalf("%v: Check = %d, %d, %d", a.s, part, at, e)
		}
		if !reflect.DeepEqual(a, old) {
			t.Fatalf("arguments have changed: %v, not %v", a, old)
		}
		for i, one := range first {
			if one.e == api.OK {
				continue
			}
			failed[i]++
			for _, value := range one.values {
				if !reflect.ValueOf(value).IsZero() {
					t.Fatalf("%v: %d returns %v with the error %d", a, i, one.values, one.e)
				}
			}
		}
	}
	for i, times := range failed {
		if times == 0 || times == 4000 {
			t.Errorf("%d has failed %d times", i, times)
		}
	}
}

// spoil overwrites a slice, and all that lies behind it in the same memory.
func spoil[T any](list []T, with T) {
	list = list[:cap(list)]
	for i := range list {
		list[i] = with
	}
}

// TestResultsAreNewMemory checks P5.14: it overwrites results, and neither
// arguments nor further results, nor other parts of the same result, change.
func TestResultsAreNewMemory(t *testing.T) {
	a := arguments{s: example(), events: slices.Grow(append(exampleEvents(), driven(35, 1, 150), crashed(36, 1, 50000)), 8)}
	a.s.Learners, a.s.Cars, a.s.Terms = slices.Grow(a.s.Learners, 8), slices.Grow(a.s.Cars, 8), slices.Grow(a.s.Terms, 8)
	old := a.clone()
	for range 2 {
		refusals, state, e := book.Run(a.s, a.events)
		if !slices.Equal(refusals, []api.Errno{0, api.ErrTwice, 0, 0, 0, 0}) || e != api.OK {
			t.Fatalf("Run = %v, %v, %d", refusals, state, e)
		}
		spoil(refusals, -99)
		want := []api.BkLesson{lesson(ann, mini, 33, 2, api.BkCancelled), lesson(ben, van, 34, 1, api.BkCrashed)}
		if !slices.Equal(state.Lessons, want) {
			t.Fatalf("Run = %v", state)
		}
		spoil(state.Lessons, lesson(-99, -99, -99, -99, -99))
		for i, want := range [][]int{{0, 650}, {0, 150}, {-4000, -4000, -22000, 50000, -20000, 0}} {
			numbers := [][]int{state.Km, state.Since, state.Accounts}[i]
			if !slices.Equal(numbers, want) {
				t.Fatalf("Run = %v", state)
			}
			spoil(numbers, -99)
		}
		postings, e := book.Postings(a.s, a.events)
		if len(postings) != 4 || postings[3] != posted(5, insurer, garage, 20000) || e != api.OK {
			t.Fatalf("Postings = %v, %d", postings, e)
		}
		spoil(postings, posted(-99, -99, -99, -99))
		if !reflect.DeepEqual(a, old) {
			t.Fatalf("a result shares the memory of an argument: %v, not %v", a, old)
		}
	}
}

package lesson_test

import (
	"math"
	"math/rand"
	"reflect"
	"slices"
	"testing"

	"bitepoint/api"
	"bitepoint/lesson"
)

// wild are numbers that are at the ends of ranges, or far beyond them.
var wild = []int{0, 1, -1, 2, 3, 4, 7, 8, 12, 63, 64, 120, 121, 1000, 1001, 1440, 1441, 100000, 100001, math.MinInt, math.MinInt + 1, math.MaxInt, math.MaxInt - 1, 1 << 32, -1 << 31}

// wildNumber is one of them.
func wildNumber(r *rand.Rand) int { return wild[r.Intn(len(wild))] }

// arguments are what the functions are called with.
type arguments struct {
	patterns       []api.LePattern
	needs, prices  []int
	day            api.LeDay
	before, behind []int
	plan           api.LePlan
}

// wildArguments are arguments that are often not valid.
func wildArguments(r *rand.Rand) arguments {
	things := 1 + r.Intn(4)
	a := arguments{patterns: randomPatterns(r, things, 6, 100), needs: randomNeeds(r, things, 3), plan: randomPlan(r, r.Intn(8))}
	a.prices = randomPrices(r, a.patterns, things)
	a.day = cloneDay(a.plan.Day)
	a.before, a.behind, _ = lesson.Cover(a.day)
	a.spoilPatterns(r)
	spoilDay(r, &a.day)
	a.spoilPlan(r)
	switch r.Intn(6) {
	case 0:
		a.before = append(a.before, wildNumber(r))
	case 1:
		a.behind = append(a.behind, wildNumber(r))
	case 2:
		a.before, a.behind = make([]int, r.Intn(20)), nil
	}
	return a
}

// spoilPatterns makes patterns, needs and prices sometimes not valid.
func (a *arguments) spoilPatterns(r *rand.Rand) {
	switch r.Intn(12) {
	case 0:
		a.patterns[r.Intn(len(a.patterns))] = pattern(wildNumber(r), wildNumber(r))
	case 1:
		a.patterns = make([]api.LePattern, r.Intn(15))
	case 2:
		a.needs[r.Intn(len(a.needs))] = wildNumber(r)
	case 3:
		a.needs = make([]int, r.Intn(70))
	case 4:
		a.prices[r.Intn(len(a.prices))] = wildNumber(r)
	case 5:
		a.prices = append(a.prices, wildNumber(r))
	}
}

// spoilDay makes a day sometimes not valid.
func spoilDay(r *rand.Rand, d *api.LeDay) {
	row := r.Intn(len(d.Minutes))
	switch r.Intn(12) {
	case 0:
		d.Minutes = table(r.Intn(19), 5)
	case 1:
		d.Minutes[row] = append(d.Minutes[row], wildNumber(r))
	case 2:
		d.Minutes[row][r.Intn(len(d.Minutes))] = wildNumber(r)
	case 3:
		d.Lessons = append(d.Lessons, api.LeLesson{Learner: wildNumber(r), Teacher: wildNumber(r), Car: wildNumber(r), Begin: wildNumber(r), End: wildNumber(r), From: wildNumber(r), To: wildNumber(r)})
	case 4:
		d.Lessons = append(d.Lessons, taught(wildNumber(r), wildNumber(r), 0, wildNumber(r)))
	case 5:
		d.Lessons = slices.Repeat([]api.LeLesson{taught(0, 1, 0, 0)}, r.Intn(20))
	}
}

// spoilPlan makes a plan sometimes not valid.
func (a *arguments) spoilPlan(r *rand.Rand) {
	p := &a.plan
	switch r.Intn(16) {
	case 0:
		spoilDay(r, &p.Day)
	case 1:
		p.System.Classes[r.Intn(3)].Includes = of(wildNumber(r))
	case 2:
		p.Learners[0] = wildNumber(r)
	case 3:
		p.Teachers[0].Begin, p.Teachers[0].End = wildNumber(r), wildNumber(r)
	case 4:
		p.Teachers[0].Rights = append(p.Teachers[0].Rights, right(wildNumber(r), wildNumber(r)))
	case 5:
		p.Cars[0] = api.LeCar{Class: wildNumber(r), Features: wildNumber(r)}
	case 6:
		p.Learners, p.Teachers, p.Cars = make([]int, r.Intn(11)), make([]api.LeTeacher, r.Intn(11)), make([]api.LeCar, r.Intn(11))
	case 7:
		*p = api.LePlan{Day: p.Day}
	}
}

// clone is a copy of arguments, without shared memory.
func (a arguments) clone() arguments {
	a.patterns, a.needs, a.prices = slices.Clone(a.patterns), slices.Clone(a.needs), slices.Clone(a.prices)
	a.before, a.behind = slices.Clone(a.before), slices.Clone(a.behind)
	a.day, a.plan = cloneDay(a.day), clonePlan(a.plan)
	return a
}

// result is what a function returns, and its error.
type result struct {
	values []any
	e      api.Errno
}

// results are the results of all functions but Check.
func (a arguments) results() []result {
	choice, e1 := lesson.Fewest(a.patterns, a.needs)
	floor, e2 := lesson.Floor(a.patterns, a.needs, a.prices)
	all, e3 := lesson.Follow(a.day)
	chains, e4 := lesson.Chains(a.day)
	before, behind, e5 := lesson.Cover(a.day)
	n, e6 := lesson.Proves(a.day, a.before, a.behind)
	broken, e7 := lesson.Broken(a.plan)
	hours, e8 := lesson.Hours(a.plan)
	return []result{
		{[]any{choice}, e1}, {[]any{floor}, e2}, {[]any{all}, e3}, {[]any{chains}, e4},
		{[]any{before, behind}, e5}, {[]any{n}, e6}, {[]any{broken}, e7}, {[]any{hours}, e8},
	}
}

// TestAnyArguments checks that all functions accept any arguments, do not
// change them, return the same for the same ones, and nothing with an error.
func TestAnyArguments(t *testing.T) {
	r := rand.New(rand.NewSource(415))
	failed := make([]int, 8)
	for range 4000 {
		a := wildArguments(r)
		old := a.clone()
		first := a.results()
		if !reflect.DeepEqual(a, old) {
			t.Fatalf("arguments have changed: %v", old)
		}
		if second := a.results(); !reflect.DeepEqual(first, second) {
			t.Fatalf("%v: %v, then %v", a, first, second)
		}
		if part, at, e := lesson.Check(a.day); e == api.OK && (part != 0 || at != 0) || e != api.OK && part == 0 {
			t.Fatalf("%v: Check = %d, %d, %d", a.day, part, at, e)
		}
		for i, one := range first {
			if one.e == api.OK {
				continue
			}
			failed[i]++
			for _, value := range one.values {
				if !reflect.ValueOf(value).IsZero() {
					t.Fatalf("%v: %d returns %v with the error %d", a, i, one.values, one.e)
				}
			}
		}
	}
	for i, times := range failed {
		if times == 0 || times == 4000 {
			t.Errorf("%d has failed %d times", i, times)
		}
	}
}

// spoil overwrites a slice, and all that lies behind it in the same memory.
func spoil[T any](list []T, with T) {
	list = list[:cap(list)]
	for i := range list {
		list[i] = with
	}
}

// TestResultsAreNewMemory overwrites results: neither arguments nor further
// results, nor other parts of the same result, change.
func TestResultsAreNewMemory(t *testing.T) {
	a := arguments{patterns: examplePatterns(), needs: slices.Grow(of(1, 1, 1), 8), day: example(), before: slices.Grow(of(0), 8), behind: slices.Grow(of(3), 8), plan: examplePlan()}
	a.plan.Learners = slices.Grow(a.plan.Learners, 8)
	old := a.clone()
	for range 2 {
		choice, e := lesson.Fewest(a.patterns, a.needs)
		if !slices.Equal(choice.Lessons, of(2, 3)) || e != api.OK {
			t.Fatalf("Fewest = %v, %d", choice, e)
		}
		spoil(choice.Lessons, -99)
		all, e := lesson.Follow(a.day)
		for i, want := range [][]int{{1, 3}, {3}, {3}, nil} {
			if !slices.Equal(all[i], want) || e != api.OK {
				t.Fatalf("Follow = %v, %d", all, e)
			}
			spoil(all[i], -99)
		}
		chains, e := lesson.Chains(a.day)
		for i, want := range [][]int{{0, 1, 3}, {2}} {
			if !slices.Equal(chains[i], want) || e != api.OK {
				t.Fatalf("Chains = %v, %d", chains, e)
			}
			spoil(chains[i], -99)
		}
		before, behind, e := lesson.Cover(a.day)
		spoil(before, -99)
		if len(before) != 0 || !slices.Equal(behind, of(1, 3)) || e != api.OK {
			t.Fatalf("Cover = %v, %v, %d", before, behind, e)
		}
		spoil(behind, -99)
		hours, e := lesson.Hours(a.plan)
		for i, want := range [][]int{{60, 60, 45, 60}, {225}, {60, 60, 45, 60}} {
			sums := [][]int{hours.Learners, hours.Teachers, hours.Cars}[i]
			if !slices.Equal(sums, want) || e != api.OK {
				t.Fatalf("Hours = %v, %d", hours, e)
			}
			spoil(sums, -99)
		}
		if !reflect.DeepEqual(a, old) {
			t.Fatalf("a result shares the memory of an argument: %v, not %v", a, old)
		}
	}
}

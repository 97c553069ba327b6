package skill_test

import (
	"math"
	"math/rand"
	"reflect"
	"slices"
	"testing"

	"bitepoint/api"
	"bitepoint/skill"
)

// wild are numbers that are at the ends of ranges, or far beyond them.
var wild = []int{0, 1, -1, 2, 5, 6, 7, 60, 61, 200, 201, 300, 301, -300, -301, 500, 999, 1000, 1001, math.MinInt, math.MinInt + 1, math.MaxInt, math.MaxInt - 1, 1 << 32, -1 << 31}

// wildNumber is one of them.
func wildNumber(r *rand.Rand) int { return wild[r.Intn(len(wild))] }

// wildSpan is a range of them, which may be none.
func wildSpan(r *rand.Rand) api.Span { return span(wildNumber(r), wildNumber(r)) }

// wildName is a name, or no string of the required form.
func wildName(r *rand.Rand) string {
	names := []string{"s0", "i0", "", "A", "1a", "\xff", "a b", "abcdefghijklmnopq"}
	return names[r.Intn(len(names))]
}

// wildSchool is a school that is often not valid.
func wildSchool(r *rand.Rand) api.SkSchool {
	s := randomSchool(r, 5)
	switch r.Intn(12) {
	case 0:
		s.Skills[r.Intn(len(s.Skills))].Name = wildName(r)
	case 1:
		s.Skills[r.Intn(len(s.Skills))].Gain = wildSpan(r)
	case 2:
		s.Skills[r.Intn(len(s.Skills))].Fade = wildSpan(r)
	case 3:
		s.Instructors[r.Intn(len(s.Instructors))].Name = wildName(r)
	case 4:
		s.Instructors[r.Intn(len(s.Instructors))].Bias = wildSpan(r)
	case 5:
		s = flat(r.Intn(8), r.Intn(8))
	}
	return s
}

// wildRanges are ranges that are often not valid.
func wildRanges(r *rand.Rand, s api.SkSchool) []api.Span {
	ranges := randomRanges(r, s, 400)
	switch r.Intn(6) {
	case 0:
		ranges = append(ranges, wildSpan(r))
	case 1:
		return nil
	case 2:
		if len(ranges) > 0 {
			ranges[r.Intn(len(ranges))] = wildSpan(r)
		}
	}
	return ranges
}

// wildEvents are events that are sometimes not valid.
func wildEvents(r *rand.Rand) []api.SkEvent {
	var events []api.SkEvent
	week := 0
	for range r.Intn(6) {
		week += r.Intn(3)
		e := api.SkEvent{Week: week, Kind: r.Intn(2), Mark: r.Intn(1001)}
		if r.Intn(12) == 0 {
			e = api.SkEvent{Week: wildNumber(r), Kind: wildNumber(r), Skill: wildNumber(r), Instructor: wildNumber(r), Mark: wildNumber(r)}
		}
		events = append(events, e)
	}
	if r.Intn(20) == 0 {
		events = make([]api.SkEvent, 59+r.Intn(4))
	}
	return events
}

// wildTest is a test that is sometimes not valid.
func wildTest(r *rand.Rand) api.SkTest {
	test := randomTest(r, flat(1, 0), 3)
	switch r.Intn(8) {
	case 0:
		test.Tasks[0] = api.SkTask{Skill: wildNumber(r), Level: wildNumber(r)}
	case 1:
		test.Allowed = wildNumber(r)
	case 2:
		test.Tasks = make([]api.SkTask, r.Intn(9))
	}
	return test
}

// arguments are what the functions are called with.
type arguments struct {
	school           api.SkSchool
	ranges           []api.Span
	events           []api.SkEvent
	test             api.SkTest
	levels           []int
	index, n, chance int
}

// wildArguments are arguments that are often not valid.
func wildArguments(r *rand.Rand) arguments {
	a := arguments{school: wildSchool(r), events: wildEvents(r), test: wildTest(r), index: r.Intn(3), n: r.Intn(30), chance: r.Intn(1001)}
	a.ranges = wildRanges(r, a.school)
	a.levels = randomLevels(r, randomRanges(r, a.school, 1000))
	if r.Intn(4) == 0 {
		a.index, a.n, a.chance = wildNumber(r), wildNumber(r), wildNumber(r)
		a.levels = append(a.levels, wildNumber(r))
	}
	return a
}

// clone is a copy of arguments, without shared memory.
func (a arguments) clone() arguments {
	a.school.Skills, a.school.Instructors = slices.Clone(a.school.Skills), slices.Clone(a.school.Instructors)
	a.ranges, a.events, a.levels = slices.Clone(a.ranges), slices.Clone(a.events), slices.Clone(a.levels)
	a.test.Tasks = slices.Clone(a.test.Tasks)
	return a
}

// result is what a function returns, and its error.
type result struct {
	values []any
	e      api.Errno
}

// results are the results of all functions but Check.
func (a arguments) results() []result {
	marks, e1 := skill.Marks(a.school, a.index, a.n)
	behind, e2 := skill.Behind(a.school, a.index, a.n)
	after, e3 := skill.After(a.school, a.ranges, a.events, a.n)
	severity, e4 := skill.Severity(a.school, a.ranges, a.events, a.index)
	chance, e5 := skill.Chance(a.school, a.test, a.levels)
	ready, least, most, e6 := skill.Ready(a.school, a.test, a.ranges, a.chance)
	plan, e7 := skill.Fewest(a.school, a.test, a.ranges, a.chance)
	return []result{
		{[]any{marks}, e1}, {[]any{behind}, e2}, {[]any{after}, e3}, {[]any{severity}, e4},
		{[]any{chance}, e5}, {[]any{ready, least, most}, e6}, {[]any{plan}, e7},
	}
}

// TestAnyArguments checks that all functions accept any arguments, do not
// change them, return the same for the same ones, and nothing with an error.
func TestAnyArguments(t *testing.T) {
	r := rand.New(rand.NewSource(10))
	for range 3000 {
		a := wildArguments(r)
		old := a.clone()
		first := a.results()
		if !reflect.DeepEqual(a, old) {
			t.Fatalf("arguments have changed: %v", old)
		}
		if second := a.results(); !reflect.DeepEqual(first, second) {
			t.Fatalf("%v: %v, then %v", a, first, second)
		}
		_, _, e := skill.Check(a.school)
		for i, one := range first {
			if e != api.OK && one.e != e {
				t.Fatalf("%v: %d returns %d, not the error %d of the school", a, i, one.e, e)
			}
			for _, value := range one.values {
				if v := reflect.ValueOf(value); one.e != api.OK && !v.IsZero() {
					t.Fatalf("%v: %d returns %v with the error %d", a, i, one.values, one.e)
				}
			}
		}
	}
}

// TestResultsAreNewMemory overwrites results, and all that may lie behind them
// in the same memory: neither arguments nor further results change.
func TestResultsAreNewMemory(t *testing.T) {
	a := arguments{school: example(), ranges: exampleStart(), events: exampleEvents(500), test: exampleTest(0)}
	old := a.clone()
	for range 2 {
		same, e := skill.After(a.school, a.ranges, nil, 0)
		if !slices.Equal(same, exampleStart()) || e != api.OK {
			t.Fatalf("After = %v, %d", same, e)
		}
		after, e := skill.After(a.school, a.ranges, a.events, 2)
		if !slices.Equal(after, []api.Span{span(500, 520), span(390, 500)}) || e != api.OK {
			t.Fatalf("After = %v, %d", after, e)
		}
		none, e := skill.Fewest(a.school, a.test, a.ranges, 0)
		if !slices.Equal(none, []int{0, 0}) || e != api.OK {
			t.Fatalf("Fewest = %v, %d", none, e)
		}
		plan, e := skill.Fewest(a.school, a.test, exampleRanges(), 400)
		if !slices.Equal(plan, []int{5, 0}) || e != api.OK {
			t.Fatalf("Fewest = %v, %d", plan, e)
		}
		for _, ranges := range [][]api.Span{same, after} {
			for i := range ranges[:cap(ranges)] {
				ranges[:cap(ranges)][i] = span(99, -99)
			}
		}
		for _, lessons := range [][]int{none, plan} {
			for i := range lessons[:cap(lessons)] {
				lessons[:cap(lessons)][i] = 99
			}
		}
		if !reflect.DeepEqual(a, old) {
			t.Fatalf("a result shares the memory of an argument: %v, not %v", a, old)
		}
	}
}

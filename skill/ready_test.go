package skill_test

import (
	"math"
	"math/rand"
	"slices"
	"testing"

	"bitepoint/api"
	"bitepoint/skill"
)

// testOf is a test: how many tasks need not be done, and the skill and the
// level of each task.
func testOf(allowed int, numbers ...int) api.SkTest {
	t := api.SkTest{Allowed: allowed}
	for i := 0; i < len(numbers); i += 2 {
		t.Tasks = append(t.Tasks, api.SkTask{Skill: numbers[i], Level: numbers[i+1]})
	}
	return t
}

// exampleTest is T of the document's examples.
func exampleTest(allowed int) api.SkTest { return testOf(allowed, 0, 400, 1, 300) }

// exampleRanges are the ranges of the document's examples for T.
func exampleRanges() []api.Span { return []api.Span{span(490, 515), span(385, 500)} }

// randomTest is a test with at most so many tasks.
func randomTest(r *rand.Rand, s api.SkSchool, most int) api.SkTest {
	var t api.SkTest
	for range 1 + r.Intn(most) {
		t.Tasks = append(t.Tasks, api.SkTask{Skill: r.Intn(len(s.Skills)), Level: r.Intn(1001)})
	}
	t.Allowed = r.Intn(len(t.Tasks))
	return t
}

// randomLevels is a level of each range.
func randomLevels(r *rand.Rand, ranges []api.Span) []int {
	var levels []int
	for _, s := range ranges {
		levels = append(levels, from(r, s))
	}
	return levels
}

// power is 1000 to the power of n.
func power(n int) int {
	p := 1
	for range n {
		p *= 1000
	}
	return p
}

// chanceOf is the chance to pass: the sum over all sets of tasks that are done.
func chanceOf(t api.SkTest, levels []int) int {
	sum := 0
	for set := range 1 << len(t.Tasks) {
		product, missed := 1, 0
		for i, task := range t.Tasks {
			done := markOf(levels[task.Skill], 500-task.Level)
			if set>>i&1 == 1 {
				product *= done
			} else {
				product *= 1000 - done
				missed++
			}
		}
		if missed <= t.Allowed {
			sum += product
		}
	}
	return sum
}

// chance is what Chance returns, or a failure.
func chance(t *testing.T, s api.SkSchool, test api.SkTest, levels []int) int {
	t.Helper()
	n, e := skill.Chance(s, test, levels)
	if e != api.OK {
		t.Fatalf("Chance of %v at %v = %d", test, levels, e)
	}
	return n
}

func TestChance(t *testing.T) {
	sure := []int{0, 0, 0, 0, 0, 0, 0, 0, 0, 0, 0, 0}
	even := []int{0, 500, 0, 500, 0, 500, 0, 500, 0, 500, 0, 500}
	for i, c := range []struct {
		test   api.SkTest
		levels []int
		want   int
	}{
		{exampleTest(0), []int{490, 385}, 345150}, {exampleTest(1), []int{490, 385}, 829850}, {testOf(0, 0, 400), []int{400, 0}, 500}, {testOf(0, 0, 400), []int{899, 0}, 999}, {testOf(0, 0, 400), []int{900, 0}, 1000},
		{testOf(0, 0, 400), []int{901, 0}, 1000}, {testOf(0, 0, 600), []int{100, 0}, 0}, {testOf(0, 0, 600), []int{101, 0}, 1}, {testOf(0, 0, 600), []int{99, 0}, 0}, {testOf(0, 0, 0), []int{1000, 0}, 1000}, {testOf(0, 0, 1000), []int{0, 1000}, 0},
		{testOf(0, sure...), []int{500, 0}, power(6)}, {testOf(5, sure...), []int{1000, 0}, power(6)}, {testOf(0, even...), []int{500, 0}, power(6) / 64}, {testOf(5, even...), []int{500, 0}, power(6) / 64 * 63}, {testOf(3, even...), []int{500, 0}, power(6) / 64 * 42},
		{testOf(5, even...), []int{0, 0}, 0}, {testOf(1, 0, 500, 0, 500), []int{500, 0}, 750000}, {testOf(0, 0, 500, 0, 500), []int{500, 0}, 250000},
	} {
		if n, e := skill.Chance(example(), c.test, c.levels); n != c.want || e != api.OK {
			t.Errorf("%d: Chance = %d, %d, not %d", i, n, e, c.want)
		}
	}
}

// TestChanceOfRandomTests checks P2.5, and what P2.12 and P2.13 promise of
// chances.
func TestChanceOfRandomTests(t *testing.T) {
	r := rand.New(rand.NewSource(7))
	for range 3000 {
		s := flat(1+r.Intn(5), 0)
		test := randomTest(r, s, 6)
		levels := randomLevels(r, randomRanges(r, s, 1000))
		n := chance(t, s, test, levels)
		if want := chanceOf(test, levels); n != want {
			t.Fatalf("Chance of %v at %v = %d, not %d", test, levels, n, want)
		}
		k, at := r.Intn(len(levels)), r.Intn(len(test.Tasks))
		higher := slices.Clone(levels)
		higher[k] += r.Intn(1001 - higher[k])
		if more := chance(t, s, test, higher); more < n {
			t.Fatalf("Chance of %v at %v = %d, at %v = %d", test, levels, n, higher, more)
		}
		harder := api.SkTest{Tasks: slices.Clone(test.Tasks), Allowed: test.Allowed}
		harder.Tasks[at].Level += r.Intn(1001 - harder.Tasks[at].Level)
		if less := chance(t, s, harder, levels); less > n {
			t.Fatalf("Chance at %v of %v = %d, of %v = %d", levels, test, n, harder, less)
		}
		shuffled := api.SkTest{Tasks: slices.Clone(test.Tasks), Allowed: test.Allowed}
		r.Shuffle(len(test.Tasks), func(i, j int) { shuffled.Tasks[i], shuffled.Tasks[j] = shuffled.Tasks[j], shuffled.Tasks[i] })
		if same := chance(t, s, shuffled, levels); same != n {
			t.Fatalf("Chance at %v of %v = %d, of %v = %d", levels, test, n, shuffled, same)
		}
		if test.Allowed+1 < len(test.Tasks) {
			milder := api.SkTest{Tasks: test.Tasks, Allowed: test.Allowed + 1}
			if more := chance(t, s, milder, levels); more < n {
				t.Fatalf("Chance of %v at %v = %d, with one more allowed %d", test, levels, n, more)
			}
		}
		if len(test.Tasks) < 6 && levels[k] >= 500 {
			longer := api.SkTest{Tasks: append(slices.Clone(test.Tasks), api.SkTask{Skill: k, Level: r.Intn(levels[k] - 499)}), Allowed: test.Allowed}
			if more := chance(t, s, longer, levels); more != 1000*n {
				t.Fatalf("Chance of %v at %v = %d, of %v = %d", test, levels, n, longer, more)
			}
		}
	}
}

func TestReady(t *testing.T) {
	at := func(level int) []api.Span { return []api.Span{span(level, level), span(0, 0)} }
	even := testOf(5, 0, 500, 0, 500, 0, 500, 0, 500, 0, 500, 0, 500)
	for i, c := range []struct {
		test        api.SkTest
		ranges      []api.Span
		chance      int
		ready       bool
		least, most int
	}{
		{exampleTest(1), exampleRanges(), 800, true, 829850, 884500}, {exampleTest(0), exampleRanges(), 800, false, 345150, 430500}, {exampleTest(1), exampleRanges(), 829, true, 829850, 884500}, {exampleTest(1), exampleRanges(), 830, false, 829850, 884500},
		{exampleTest(0), exampleRanges(), 345, true, 345150, 430500}, {exampleTest(0), exampleRanges(), 346, false, 345150, 430500}, {exampleTest(0), exampleRanges(), 0, true, 345150, 430500}, {exampleTest(0), exampleRanges(), 1000, false, 345150, 430500},
		{testOf(0, 0, 500), at(300), 300, true, 300, 300}, {testOf(0, 0, 500), at(300), 301, false, 300, 300}, {testOf(0, 0, 500), at(1000), 1000, true, 1000, 1000}, {testOf(0, 0, 500), at(0), 0, true, 0, 0}, {testOf(0, 0, 500), at(0), 1, false, 0, 0},
		{even, at(500), 984, true, power(6) / 64 * 63, power(6) / 64 * 63}, {even, at(500), 985, false, power(6) / 64 * 63, power(6) / 64 * 63}, {even, at(1000), 1000, true, power(6), power(6)}, {even, at(999), 1000, false, power(6) - 1, power(6) - 1}, {even, at(0), 0, true, 0, 0},
		{testOf(0, 0, 500), []api.Span{span(400, 600), span(0, 1000)}, 400, true, 400, 600}, {testOf(0, 0, 500), []api.Span{span(400, 600), span(0, 1000)}, 401, false, 400, 600},
	} {
		if ready, least, most, e := skill.Ready(example(), c.test, c.ranges, c.chance); ready != c.ready || least != c.least || most != c.most || e != api.OK {
			t.Errorf("%d: Ready = %t, %d, %d, %d", i, ready, least, most, e)
		}
	}
}

// eachLevels calls a function for all levels of some ranges.
func eachLevels(ranges []api.Span, levels []int, look func(levels []int)) {
	if len(levels) == len(ranges) {
		look(levels)
		return
	}
	for level := ranges[len(levels)].Lo; level <= ranges[len(levels)].Hi; level++ {
		eachLevels(ranges, append(levels, level), look)
	}
}

// TestReadyAtAllLevels checks P2.10.
func TestReadyAtAllLevels(t *testing.T) {
	r := rand.New(rand.NewSource(8))
	for range 300 {
		s := flat(1+r.Intn(4), 0)
		test := randomTest(r, s, 6)
		ranges := randomRanges(r, s, 6)
		least, most := math.MaxInt, math.MinInt
		eachLevels(ranges, nil, func(levels []int) {
			n := chanceOf(test, levels)
			least, most = min(least, n), max(most, n)
		})
		unit := power(len(test.Tasks)) / 1000
		for _, asked := range []int{r.Intn(1001), least / unit, min(1000, least/unit+1), most / unit, 0, 1000} {
			ready, got, gotMost, e := skill.Ready(s, test, ranges, asked)
			if got != least || gotMost != most || ready != (least >= asked*unit) || e != api.OK {
				t.Fatalf("Ready of %v with %v for %d = %t, %d, %d, %d, not %d, %d", test, ranges, asked, ready, got, gotMost, e, least, most)
			}
		}
	}
}

// after is ranges after the lessons of a plan.
func after(s api.SkSchool, ranges []api.Span, plan []int) []api.Span {
	raised := slices.Clone(ranges)
	for k, lessons := range plan {
		for range lessons {
			raised[k] = span(markOf(raised[k].Lo, s.Skills[k].Gain.Lo), markOf(raised[k].Hi, s.Skills[k].Gain.Hi))
		}
	}
	return raised
}

// fewestOf is the plan that Fewest returns, as the document defines it: all
// plans are tried, skill by skill.
func fewestOf(s api.SkSchool, test api.SkTest, ranges []api.Span, chance int) []int {
	var best []int
	fewest := math.MaxInt
	plan := make([]int, len(s.Skills))
	var try func(at, sum int)
	try = func(at, sum int) {
		if at < len(plan) {
			for plan[at] = 0; plan[at] <= 8; plan[at]++ {
				try(at+1, sum+plan[at])
			}
			return
		}
		if sum >= fewest {
			return
		}
		if ready, _, _, _ := skill.Ready(s, test, after(s, ranges, plan), chance); ready {
			best, fewest = slices.Clone(plan), sum
		}
	}
	try(0, 0)
	return best
}

func TestFewest(t *testing.T) {
	one := func(gain api.Span) api.SkSchool {
		s := flat(1, 0)
		s.Skills[0].Gain = gain
		return s
	}
	at := []api.Span{span(100, 1000)}
	for i, c := range []struct {
		s      api.SkSchool
		test   api.SkTest
		ranges []api.Span
		chance int
		want   []int
	}{
		{example(), exampleTest(0), exampleRanges(), 400, []int{5, 0}}, {example(), exampleTest(0), exampleRanges(), 345, []int{0, 0}}, {example(), exampleTest(0), exampleRanges(), 0, []int{0, 0}}, {example(), exampleTest(0), exampleRanges(), 346, []int{0, 1}},
		{example(), exampleTest(0), exampleRanges(), 1000, nil}, {one(span(50, 100)), testOf(0, 0, 500), at, 500, []int{8}}, {one(span(50, 100)), testOf(0, 0, 500), at, 501, nil}, {one(span(50, 100)), testOf(0, 0, 500), at, 451, []int{8}}, {one(span(50, 100)), testOf(0, 0, 500), at, 450, []int{7}},
		{one(span(0, 1000)), testOf(0, 0, 500), at, 100, []int{0}}, {one(span(0, 1000)), testOf(0, 0, 500), at, 101, nil}, {one(span(1000, 1000)), testOf(0, 0, 500), at, 1000, []int{1}}, {one(span(1000, 1000)), testOf(0, 0, 1000), at, 500, []int{1}}, {one(span(1000, 1000)), testOf(0, 0, 1000), at, 501, nil},
	} {
		wantError := api.OK
		if c.want == nil {
			wantError = api.ErrDown
		}
		if plan, e := skill.Fewest(c.s, c.test, c.ranges, c.chance); !slices.Equal(plan, c.want) || e != wantError {
			t.Errorf("%d: Fewest = %v, %d, not %v", i, plan, e, c.want)
		}
	}
}

// TestFewestOfEqualPlans checks that of plans with as many lessons the first
// one is meant, compared skill by skill.
func TestFewestOfEqualPlans(t *testing.T) {
	s := flat(5, 0)
	var test api.SkTest
	var ranges []api.Span
	for k := range s.Skills {
		s.Skills[k].Gain = span(100, 100)
		test.Tasks = append(test.Tasks, api.SkTask{Skill: k, Level: 500})
		ranges = append(ranges, span(0, 1000))
	}
	for _, c := range []struct {
		allowed, chance int
		want            []int
	}{
		{4, 0, []int{0, 0, 0, 0, 0}}, {4, 1, []int{0, 0, 0, 0, 1}}, {4, 800, []int{0, 0, 0, 0, 8}}, {4, 820, []int{0, 0, 0, 1, 8}}, {0, 1, []int{2, 2, 3, 3, 3}},
		{0, 286, []int{7, 8, 8, 8, 8}}, {0, 287, []int{8, 8, 8, 8, 8}}, {0, 327, []int{8, 8, 8, 8, 8}}, {0, 328, nil},
	} {
		test.Allowed = c.allowed
		wantError := api.OK
		if c.want == nil {
			wantError = api.ErrDown
		}
		if plan, e := skill.Fewest(s, test, ranges, c.chance); !slices.Equal(plan, c.want) || e != wantError {
			t.Errorf("%d allowed, %d: Fewest = %v, %d, not %v", c.allowed, c.chance, plan, e, c.want)
		}
	}
}

// TestFewestOfRandomSchools checks P2.6 and P2.11 against all plans.
func TestFewestOfRandomSchools(t *testing.T) {
	r := rand.New(rand.NewSource(9))
	down := 0
	for range 400 {
		s := randomSchool(r, 3)
		test := randomTest(r, s, 4)
		ranges := randomRanges(r, s, 300)
		asked := r.Intn(1001)
		want, wantError := fewestOf(s, test, ranges, asked), api.OK
		if want == nil {
			wantError = api.ErrDown
			down++
		}
		if plan, e := skill.Fewest(s, test, ranges, asked); !slices.Equal(plan, want) || e != wantError {
			t.Fatalf("%v: Fewest of %v with %v for %d = %v, %d, not %v", s, test, ranges, asked, plan, e, want)
		}
	}
	if down < 20 || down > 380 {
		t.Errorf("%d of 400 schools without a plan", down)
	}
}

// TestErrorsOfTests checks the errors that Chance, Ready and Fewest share.
func TestErrorsOfTests(t *testing.T) {
	for i, c := range []struct {
		test api.SkTest
		e    api.Errno
	}{
		{testOf(0), api.ErrLong}, {testOf(-1), api.ErrLong}, {api.SkTest{Tasks: make([]api.SkTask, 7), Allowed: -1}, api.ErrLong},
		{testOf(-1, 9, 0), api.ErrRange}, {testOf(1, 9, 0), api.ErrRange}, {testOf(2, 0, 0, 1, 0), api.ErrRange}, {testOf(math.MinInt, 0, 0), api.ErrRange}, {testOf(math.MaxInt, 0, 0), api.ErrRange},
		{testOf(1, 0, 0, 2, -1), api.ErrNone}, {testOf(1, 0, 0, -1, 0), api.ErrNone}, {testOf(0, math.MaxInt, 0), api.ErrNone}, {testOf(0, math.MinInt, 0), api.ErrNone}, {testOf(0, 2, 0, 0, -1), api.ErrNone},
		{testOf(0, 0, -1, 2, 0), api.ErrRange}, {testOf(0, 0, 0, 1, 1001), api.ErrRange}, {testOf(0, 0, math.MaxInt), api.ErrRange}, {testOf(0, 0, math.MinInt), api.ErrRange},
	} {
		n, e1 := skill.Chance(example(), c.test, nil)
		ready, least, most, e2 := skill.Ready(example(), c.test, nil, -1)
		plan, e3 := skill.Fewest(example(), c.test, nil, -1)
		if e1 != c.e || e2 != c.e || e3 != c.e || n != 0 || ready || least != 0 || most != 0 || plan != nil {
			t.Errorf("%d: Chance = %d, %d; Ready = %t, %d, %d, %d; Fewest = %v, %d", i, n, e1, ready, least, most, e2, plan, e3)
		}
	}
	if n, e := skill.Chance(example(), api.SkTest{Tasks: make([]api.SkTask, 6), Allowed: 5}, []int{500, 0}); n != power(6) || e != api.OK {
		t.Errorf("6 tasks, 5 allowed: Chance = %d, %d", n, e)
	}
}

func TestErrorsOfChance(t *testing.T) {
	for _, c := range []struct {
		levels []int
		e      api.Errno
	}{
		{nil, api.ErrLong}, {[]int{-1}, api.ErrLong}, {[]int{-1, 0, 0}, api.ErrLong}, {[]int{-1, 0}, api.ErrRange}, {[]int{0, 1001}, api.ErrRange}, {[]int{math.MinInt, 0}, api.ErrRange}, {[]int{0, math.MaxInt}, api.ErrRange}, {[]int{0, 1000}, api.OK},
	} {
		// No task is of the second skill.
		if n, e := skill.Chance(example(), testOf(0, 0, 900), c.levels); n != 0 || e != c.e {
			t.Errorf("Chance at %v = %d, %d", c.levels, n, e)
		}
	}
}

// TestErrorsOfReady checks the errors that Ready and Fewest share.
func TestErrorsOfReady(t *testing.T) {
	good := exampleRanges()
	for i, c := range []struct {
		ranges []api.Span
		chance int
		e      api.Errno
	}{
		{nil, -1, api.ErrLong}, {good[:1], 500, api.ErrLong}, {append(exampleRanges(), span(-1, 0)), 500, api.ErrLong}, {[]api.Span{span(-1, 0), span(0, 0)}, 500, api.ErrRange}, {[]api.Span{span(0, 0), span(0, 1001)}, 500, api.ErrRange},
		{[]api.Span{span(1, 0), span(-1, 0)}, -1, api.ErrArg}, {[]api.Span{span(0, -1), span(0, 0)}, -1, api.ErrRange}, {[]api.Span{span(0, 0), span(501, 500)}, 1001, api.ErrArg},
		{good, -1, api.ErrRange}, {good, 1001, api.ErrRange}, {good, math.MinInt, api.ErrRange}, {good, math.MaxInt, api.ErrRange},
	} {
		ready, least, most, e := skill.Ready(example(), exampleTest(0), c.ranges, c.chance)
		plan, f := skill.Fewest(example(), exampleTest(0), c.ranges, c.chance)
		if ready || least != 0 || most != 0 || e != c.e || plan != nil || f != c.e {
			t.Errorf("%d: Ready = %t, %d, %d, %d; Fewest = %v, %d", i, ready, least, most, e, plan, f)
		}
	}
}

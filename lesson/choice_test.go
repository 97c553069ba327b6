package lesson_test

import (
	"math"
	"math/rand"
	"slices"
	"testing"

	"bitepoint/api"
	"bitepoint/lesson"
)

// pattern is a pattern.
func pattern(shows, metres int) api.LePattern { return api.LePattern{Shows: shows, Metres: metres} }

// examplePatterns is P of the document's examples.
func examplePatterns() []api.LePattern {
	return []api.LePattern{pattern(3, 500), pattern(4, 200), pattern(6, 400), pattern(1, 100)}
}

// of is a list of numbers.
func of(numbers ...int) []int { return numbers }

// randomPatterns are at most so many patterns for some things, with at most so
// many metres: with few of them many choices are as good.
func randomPatterns(r *rand.Rand, things, most, metres int) []api.LePattern {
	patterns := make([]api.LePattern, 1+r.Intn(most))
	for i := range patterns {
		patterns[i] = pattern(r.Intn(1<<things), r.Intn(metres+1))
	}
	return patterns
}

// randomNeeds are needs of some things, each at most so great.
func randomNeeds(r *rand.Rand, things, most int) []int {
	needs := make([]int, things)
	for i := range needs {
		needs[i] = r.Intn(most + 1)
	}
	return needs
}

// randomPrices are fair prices.
func randomPrices(r *rand.Rand, patterns []api.LePattern, things int) []int {
	prices := make([]int, things)
	for i := range prices {
		prices[i] = r.Intn(api.All + 1)
	}
	for !fair(patterns, prices) {
		prices[r.Intn(things)] /= 2
	}
	return prices
}

// fair is whether prices are fair, literally.
func fair(patterns []api.LePattern, prices []int) bool {
	for _, p := range patterns {
		sum := 0
		for thing, price := range prices {
			sum += p.Shows >> thing & 1 * price
		}
		if sum > api.All {
			return false
		}
	}
	return true
}

// enough is whether a choice is enough, literally.
func enough(patterns []api.LePattern, needs, choice []int) bool {
	for thing, need := range needs {
		shown := 0
		for _, at := range choice {
			shown += patterns[at].Shows >> thing & 1
		}
		if shown < need {
			return false
		}
	}
	return true
}

// metres is how many metres a choice has.
func metres(patterns []api.LePattern, choice []int) int {
	sum := 0
	for _, at := range choice {
		sum += patterns[at].Metres
	}
	return sum
}

// eachChoice calls a function with all choices of so many lessons, ascending,
// the first one first.
func eachChoice(patterns, lessons int, do func(choice []int)) {
	choice := make([]int, lessons)
	var fill func(at, from int)
	fill = func(at, from int) {
		if at == lessons {
			do(choice)
			return
		}
		for choice[at] = from; choice[at] < patterns; choice[at]++ {
			fill(at+1, choice[at])
		}
	}
	fill(0, 0)
}

// bestOfAll is the best choice of all those of at most so many lessons, and
// whether there is one.
func bestOfAll(patterns []api.LePattern, needs []int, most int) (api.LeChoice, bool) {
	for lessons := range most + 1 {
		best, found := api.LeChoice{}, false
		eachChoice(len(patterns), lessons, func(choice []int) {
			if m := metres(patterns, choice); enough(patterns, needs, choice) && (!found || m < best.Metres) {
				best, found = api.LeChoice{Lessons: slices.Clone(choice), Metres: m}, true
			}
		})
		if found {
			return best, true
		}
	}
	return api.LeChoice{}, false
}

// fewest is Fewest, which may fail with ErrDown only; then there is no choice.
func fewest(t *testing.T, patterns []api.LePattern, needs []int) (choice api.LeChoice, is bool) {
	t.Helper()
	choice, e := lesson.Fewest(patterns, needs)
	if e != api.OK && e != api.ErrDown {
		t.Fatalf("Fewest of %v, %v = %v, %d", patterns, needs, choice, e)
	}
	return choice, e == api.OK
}

func TestFewest(t *testing.T) {
	same := []api.LePattern{pattern(1, 100), pattern(1, 90), pattern(1, 90), pattern(0, 0), pattern(3, 300)}
	for i, c := range []struct {
		patterns []api.LePattern
		needs    []int
		lessons  []int
		metres   int
	}{
		{examplePatterns(), of(1, 1, 1), of(2, 3), 500}, {examplePatterns(), of(2, 1, 1), of(2, 3, 3), 600}, {examplePatterns(), of(1, 0, 0), of(3), 100},
		{examplePatterns(), of(0, 0, 0), nil, 0}, {examplePatterns(), of(0, 2, 0), of(2, 2), 800}, {examplePatterns(), of(3, 3, 3), of(2, 2, 2, 3, 3, 3), 1500},
		{same, of(1, 0), of(1), 90}, {same, of(2, 0), of(1, 1), 180}, {same, of(1, 1), of(4), 300}, {same, of(3, 1), of(1, 1, 4), 480},
		{[]api.LePattern{pattern(1, 200), pattern(2, 0), pattern(2, 200), pattern(1, 0)}, of(1, 1), of(1, 3), 0},
		{[]api.LePattern{pattern(1, 3), pattern(6, 1), pattern(2, 1), pattern(5, 3)}, of(1, 1, 1), of(0, 1), 4},
		{[]api.LePattern{pattern(63, 100000)}, of(3, 3, 3, 3, 3, 3), of(0, 0, 0), 300000},
		{[]api.LePattern{pattern(32, 0)}, of(0, 0, 0, 0, 0, 3), of(0, 0, 0), 0},
		{[]api.LePattern{pattern(0, 5)}, of(0), nil, 0},
	} {
		if x, e := lesson.Fewest(c.patterns, c.needs); !slices.Equal(x.Lessons, c.lessons) || x.Metres != c.metres || e != api.OK {
			t.Errorf("%d: Fewest = %v, %d", i, x, e)
		}
	}
	single := []api.LePattern{pattern(32, 1), pattern(16, 1), pattern(8, 1), pattern(4, 1), pattern(2, 1), pattern(1, 1)}
	want := of(0, 0, 0, 1, 1, 1, 2, 2, 2, 3, 3, 3, 4, 4, 4, 5, 5, 5)
	if x, e := lesson.Fewest(single, of(3, 3, 3, 3, 3, 3)); !slices.Equal(x.Lessons, want) || x.Metres != 18 || e != api.OK {
		t.Errorf("Fewest of single things = %v, %d", x, e)
	}
}

func TestFewestIsDown(t *testing.T) {
	for i, c := range []struct {
		patterns []api.LePattern
		needs    []int
		is       bool
	}{
		{[]api.LePattern{pattern(5, 1)}, of(0, 1, 0), false}, {[]api.LePattern{pattern(5, 1)}, of(3, 3, 3), false}, {[]api.LePattern{pattern(5, 1)}, of(3, 0, 3), true},
		{[]api.LePattern{pattern(0, 1)}, of(1), false}, {[]api.LePattern{pattern(0, 1)}, of(0, 0, 0, 0, 0, 0), true}, {[]api.LePattern{pattern(1, 1), pattern(4, 1)}, of(1, 1, 1), false},
		{[]api.LePattern{pattern(1, 1), pattern(4, 1)}, of(1, 0, 1), true}, {[]api.LePattern{pattern(31, 1)}, of(0, 0, 0, 0, 0, 1), false},
	} {
		want := api.OK
		if !c.is {
			want = api.ErrDown
		}
		if x, e := lesson.Fewest(c.patterns, c.needs); e != want || !c.is && (x.Lessons != nil || x.Metres != 0) {
			t.Errorf("%d: Fewest = %v, %d", i, x, e)
		}
	}
}

// patternErrors are patterns and needs with an error.
var patternErrors = []struct {
	patterns []api.LePattern
	needs    []int
	e        api.Errno
}{
	{nil, of(1), api.ErrLong}, {make([]api.LePattern, 13), of(1), api.ErrLong}, {make([]api.LePattern, 1000), of(1), api.ErrLong},
	{examplePatterns(), nil, api.ErrLong}, {examplePatterns(), make([]int, 7), api.ErrLong}, {examplePatterns(), make([]int, 64), api.ErrLong}, {nil, nil, api.ErrLong},
	{examplePatterns(), of(1, 1, 4), api.ErrRange}, {examplePatterns(), of(-1, 1, 1), api.ErrRange}, {examplePatterns(), of(1, math.MaxInt, 1), api.ErrRange}, {examplePatterns(), of(1, 1, math.MinInt), api.ErrRange},
	{[]api.LePattern{pattern(8, 1)}, of(1, 1, 1), api.ErrRange}, {[]api.LePattern{pattern(-1, 1)}, of(1, 1, 1), api.ErrRange}, {[]api.LePattern{pattern(2, 1)}, of(1), api.ErrRange}, {[]api.LePattern{pattern(64, 1)}, make([]int, 6), api.ErrRange},
	{[]api.LePattern{pattern(1, -1)}, of(1), api.ErrRange}, {[]api.LePattern{pattern(1, 100001)}, of(1), api.ErrRange}, {[]api.LePattern{pattern(1, math.MaxInt)}, of(1), api.ErrRange}, {[]api.LePattern{pattern(math.MinInt, 1)}, of(1), api.ErrRange},
	{append(examplePatterns(), pattern(1, -1)), of(1, 1, 1), api.ErrRange}, {append(examplePatterns(), pattern(8, 1)), of(0, 0, 0), api.ErrRange},
	// Which one is first, and before what is not possible.
	{nil, of(9), api.ErrLong}, {[]api.LePattern{pattern(-1, -1)}, nil, api.ErrLong}, {make([]api.LePattern, 13), of(-1), api.ErrLong}, {[]api.LePattern{pattern(0, 1), pattern(0, -1)}, of(1), api.ErrRange},
}

func TestFewestAndFloorOfErrors(t *testing.T) {
	for i, c := range patternErrors {
		if x, e := lesson.Fewest(c.patterns, c.needs); e != c.e || x.Lessons != nil || x.Metres != 0 {
			t.Errorf("%d: Fewest = %v, %d", i, x, e)
		}
		for _, prices := range [][]int{nil, make([]int, len(c.needs)), of(-1), of(1000, 1000, 1000)} {
			if x, e := lesson.Floor(c.patterns, c.needs, prices); e != c.e || x != 0 {
				t.Errorf("%d: Floor by %v = %d, %d", i, prices, x, e)
			}
		}
	}
	for i, c := range []struct {
		patterns []api.LePattern
		needs    []int
	}{{make([]api.LePattern, 12), of(0)}, {make([]api.LePattern, 1), make([]int, 6)}, {[]api.LePattern{pattern(7, 100000)}, of(3, 3, 3)}, {[]api.LePattern{pattern(63, 0)}, of(0, 1, 2, 3, 0, 3)}} {
		_, e := lesson.Fewest(c.patterns, c.needs)
		_, f := lesson.Floor(c.patterns, c.needs, make([]int, len(c.needs)))
		if e != api.OK || f != api.OK {
			t.Errorf("%d: Fewest = %d, Floor = %d", i, e, f)
		}
	}
}

func TestFloor(t *testing.T) {
	for i, c := range []struct {
		patterns      []api.LePattern
		needs, prices []int
		want          int
		e             api.Errno
	}{
		{examplePatterns(), of(1, 1, 1), of(500, 500, 500), 2, api.OK}, {examplePatterns(), of(2, 1, 1), of(1000, 0, 1000), 3, api.OK}, {examplePatterns(), of(2, 1, 1), of(600, 500, 0), 0, api.ErrArg},
		{examplePatterns(), of(1, 1, 1), of(0, 0, 0), 0, api.OK}, {examplePatterns(), of(0, 0, 0), of(500, 500, 500), 0, api.OK}, {examplePatterns(), of(1, 0, 0), of(1, 0, 0), 1, api.OK}, {examplePatterns(), of(1, 0, 0), of(1000, 0, 0), 1, api.OK},
		{examplePatterns(), of(1, 1, 0), of(500, 500, 0), 1, api.OK}, {examplePatterns(), of(1, 1, 0), of(500, 501, 0), 0, api.ErrArg}, {examplePatterns(), of(3, 0, 1), of(667, 0, 0), 3, api.OK}, {examplePatterns(), of(3, 0, 1), of(666, 0, 3), 3, api.OK}, {examplePatterns(), of(3, 0, 1), of(666, 0, 2), 2, api.OK},
		{[]api.LePattern{pattern(0, 0)}, of(3, 3, 3, 3, 3, 3), of(1000, 1000, 1000, 1000, 1000, 1000), 18, api.OK},
		{[]api.LePattern{pattern(63, 0)}, of(3, 3, 3, 3, 3, 3), of(167, 167, 167, 167, 167, 166), 0, api.ErrArg}, {[]api.LePattern{pattern(63, 0)}, of(3, 3, 3, 3, 3, 3), of(167, 167, 167, 167, 166, 166), 3, api.OK},
		{[]api.LePattern{pattern(1, 0), pattern(2, 0), pattern(3, 0)}, of(1, 1), of(1000, 1), 0, api.ErrArg},
		{examplePatterns(), of(1, 1, 1), of(500, 500), 0, api.ErrLong}, {examplePatterns(), of(1, 1, 1), of(0, 0, 0, 0), 0, api.ErrLong}, {examplePatterns(), of(1, 1, 1), nil, 0, api.ErrLong}, {examplePatterns(), of(1, 1, 1), of(-1, 1001), 0, api.ErrLong},
		{examplePatterns(), of(1, 1, 1), of(-1, 0, 0), 0, api.ErrRange}, {examplePatterns(), of(1, 1, 1), of(0, 0, 1001), 0, api.ErrRange}, {examplePatterns(), of(1, 1, 1), of(1000, 1000, -1), 0, api.ErrRange}, {examplePatterns(), of(1, 1, 1), of(math.MaxInt, math.MaxInt, 0), 0, api.ErrRange}, {examplePatterns(), of(0, 0, 0), of(0, math.MinInt, 0), 0, api.ErrRange},
		{[]api.LePattern{pattern(1, 0)}, of(0, 3), of(0, 1000), 3, api.OK},
	} {
		if x, e := lesson.Floor(c.patterns, c.needs, c.prices); x != c.want || e != c.e {
			t.Errorf("%d: Floor = %d, %d", i, x, e)
		}
	}
}

func TestFewestOfAllChoices(t *testing.T) {
	r := rand.New(rand.NewSource(47))
	for range 1500 {
		things := 1 + r.Intn(4)
		patterns, needs := randomPatterns(r, things, 5, []int{0, 1, 3, 1000}[r.Intn(4)]), randomNeeds(r, things, 2)
		x, is := fewest(t, patterns, needs)
		// A choice that is enough needs no more lessons than all needs together.
		best, can := bestOfAll(patterns, needs, 8)
		if is != can || is && (!slices.Equal(x.Lessons, best.Lessons) || x.Metres != best.Metres) {
			t.Fatalf("Fewest of %v, %v = %v, %t, not %v, %t", patterns, needs, x, is, best, can)
		}
	}
}

// TestFewestIsEnough looks at great instances: what is chosen is enough, has
// its metres, and not without any of its lessons; what is down is not shown.
func TestFewestIsEnough(t *testing.T) {
	r := rand.New(rand.NewSource(48))
	for range 300 {
		things := 1 + r.Intn(6)
		patterns, needs := randomPatterns(r, things, 12, 50), randomNeeds(r, things, 3)
		x, is := fewest(t, patterns, needs)
		all := slices.Repeat(of(0, 1, 2, 3, 4, 5, 6, 7, 8, 9, 10, 11)[:len(patterns)], 3)
		if is != enough(patterns, needs, all) {
			t.Fatalf("Fewest of %v, %v = %v, %t", patterns, needs, x, is)
		}
		if !is {
			continue
		}
		if !enough(patterns, needs, x.Lessons) || !slices.IsSorted(x.Lessons) || x.Metres != metres(patterns, x.Lessons) {
			t.Fatalf("Fewest of %v, %v = %v", patterns, needs, x)
		}
		for at := range x.Lessons {
			if enough(patterns, needs, slices.Delete(slices.Clone(x.Lessons), at, at+1)) {
				t.Fatalf("Fewest of %v, %v = %v: too many", patterns, needs, x)
			}
		}
	}
}

func TestFloorIsAtMostFewest(t *testing.T) {
	r := rand.New(rand.NewSource(49))
	reached := 0
	for range 1000 {
		things := 1 + r.Intn(6)
		patterns, needs := randomPatterns(r, things, 8, 50), randomNeeds(r, things, 3)
		prices := randomPrices(r, patterns, things)
		floor, e := lesson.Floor(patterns, needs, prices)
		if e != api.OK {
			t.Fatalf("Floor of %v, %v, %v = %d, %d", patterns, needs, prices, floor, e)
		}
		x, is := fewest(t, patterns, needs)
		if is && floor > len(x.Lessons) {
			t.Fatalf("Floor of %v, %v, %v = %d, but %v", patterns, needs, prices, floor, x)
		}
		if is && floor > 0 && floor == len(x.Lessons) {
			reached++
		}
		// Any choice that is enough, also one with more lessons than needed.
		if wide := slices.Repeat(of(r.Intn(len(patterns)), r.Intn(len(patterns)), r.Intn(len(patterns))), 3); enough(patterns, needs, wide) && floor > len(wide) {
			t.Fatalf("Floor of %v, %v, %v = %d, but %v", patterns, needs, prices, floor, wide)
		}
	}
	if reached == 0 {
		t.Error("no floor is reached")
	}
}

func TestFloorIsFairAndRoundedUp(t *testing.T) {
	r := rand.New(rand.NewSource(50))
	unfair := 0
	for range 3000 {
		things := 1 + r.Intn(6)
		patterns, needs, prices := randomPatterns(r, things, 3, 0), randomNeeds(r, things, 3), randomNeeds(r, things, 500)
		floor, e := lesson.Floor(patterns, needs, prices)
		if !fair(patterns, prices) {
			unfair++
			if floor != 0 || e != api.ErrArg {
				t.Fatalf("Floor of %v, %v, %v = %d, %d", patterns, needs, prices, floor, e)
			}
			continue
		}
		sum := 0
		for thing := range prices {
			sum += needs[thing] * prices[thing]
		}
		if e != api.OK || floor*api.All < sum || (floor-1)*api.All >= sum {
			t.Fatalf("Floor of %v, %v, %v = %d, %d", patterns, needs, prices, floor, e)
		}
	}
	if unfair == 0 || unfair == 3000 {
		t.Errorf("%d prices are not fair", unfair)
	}
}

// noMore is whether a choice has fewer lessons than another one, or as many
// with no more metres.
func noMore(a, b api.LeChoice) bool {
	return len(a.Lessons) < len(b.Lessons) || len(a.Lessons) == len(b.Lessons) && a.Metres <= b.Metres
}

func TestFewestWithMore(t *testing.T) {
	r := rand.New(rand.NewSource(51))
	for range 500 {
		things := 1 + r.Intn(6)
		patterns, needs := randomPatterns(r, things, 8, 50), randomNeeds(r, things, 2)
		x, is := fewest(t, patterns, needs)
		more := slices.Insert(slices.Clone(patterns), r.Intn(len(patterns)+1), pattern(r.Intn(1<<things), r.Intn(51)))
		if with, can := fewest(t, more, needs); is && (!can || !noMore(with, x)) {
			t.Fatalf("%v, %v: %v, and %v with %v", patterns, needs, x, with, more)
		}
		greater := slices.Clone(needs)
		greater[r.Intn(things)]++
		if with, can := fewest(t, patterns, greater); can && (!is || !noMore(x, with)) {
			t.Fatalf("%v, %v: %v, and %v for %v", patterns, needs, x, with, greater)
		}
	}
}

func TestFewestOfTwoLearners(t *testing.T) {
	r := rand.New(rand.NewSource(52))
	fewer := 0
	for range 500 {
		things := 1 + r.Intn(6)
		patterns, a, b := randomPatterns(r, things, 8, 50), randomNeeds(r, things, 2), randomNeeds(r, things, 1)
		both := slices.Clone(a)
		for thing := range both {
			both[thing] += b[thing]
		}
		x, isX := fewest(t, patterns, a)
		y, isY := fewest(t, patterns, b)
		z, isZ := fewest(t, patterns, both)
		if isZ != (isX && isY) || len(z.Lessons) > len(x.Lessons)+len(y.Lessons) {
			t.Fatalf("%v: %v for %v, %v for %v, but %v for both", patterns, x, a, y, b, z)
		}
		if isZ && len(z.Lessons) < len(x.Lessons)+len(y.Lessons) {
			fewer++
		}
	}
	if fewer == 0 {
		t.Error("both never need fewer lessons together")
	}
}

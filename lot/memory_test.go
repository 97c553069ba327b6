package lot_test

import (
	"math"
	"math/rand"
	"reflect"
	"slices"
	"testing"

	"bitepoint/api"
	"bitepoint/lot"
)

// wild are numbers that are at the ends of ranges, or far beyond them.
var wild = []int{0, 1, -1, 2, 3, 4, 5, 6, 7, 8, 9, 31, 32, 63, 64, 255, 256, 1000000000, 1000000001, 2147483646, 2147483647, 2147483648, math.MinInt, math.MinInt + 1, math.MaxInt, math.MaxInt - 1, 1 << 32, -1 << 31}

// wildNumber is one of them.
func wildNumber(r *rand.Rand) int { return wild[r.Intn(len(wild))] }

// wildNumbers are some of them.
func wildNumbers(r *rand.Rand, below int) []int {
	list := make([]int, r.Intn(below))
	for i := range list {
		list[i] = wildNumber(r)
	}
	return list
}

// arguments are what the functions are called with.
type arguments struct {
	d                             api.LoDraw
	party, number, lot            int
	promises, numbers, assignment []int
}

// wildArguments are arguments that are often not valid.
func wildArguments(r *rand.Rand) arguments {
	a := arguments{d: randomDraw(r, 6), party: r.Intn(8), number: randomNumber(r), lot: r.Intn(2147483647), numbers: randomNumbers(r)}
	a.promises = promisesOf(a.numbers)
	a.assignment = make([]int, len(a.d.Knows))
	for test := range a.assignment {
		a.assignment[test] = r.Intn(len(a.d.Times))
	}
	if picked, e := lot.Pick(a.d, lotOf(a.numbers)); e == api.OK && r.Intn(2) == 0 {
		a.assignment = picked
	}
	for _, n := range []*int{&a.party, &a.number, &a.lot} {
		if r.Intn(4) == 0 {
			*n = wildNumber(r)
		}
	}
	for _, list := range []*[]int{&a.d.Times, &a.d.Knows, &a.promises, &a.numbers, &a.assignment} {
		switch r.Intn(16) {
		case 0:
			*list = wildNumbers(r, 12)
		case 1:
			*list = append(*list, 0)
		case 2:
			if len(*list) > 0 {
				(*list)[r.Intn(len(*list))] = wildNumber(r)
			}
		}
	}
	return a
}

// clone is a copy of arguments, without shared memory.
func (a arguments) clone() arguments {
	a.d, a.promises, a.numbers, a.assignment = cloneDraw(a.d), slices.Clone(a.promises), slices.Clone(a.numbers), slices.Clone(a.assignment)
	return a
}

// result is what a function returns, and its error.
type result struct {
	value any
	e     api.Errno
}

// results are the results of all functions but Check, whose indices are not
// zero with an error.
func (a arguments) results() []result {
	promise, e1 := lot.Promise(a.party, a.number)
	cheats, e2 := lot.Cheats(a.promises, a.numbers)
	is, e3 := lot.Lot(a.numbers)
	many, e4 := lot.Count(a.d)
	picked, e5 := lot.Pick(a.d, a.lot)
	index, e6 := lot.Index(a.d, a.assignment)
	tests, e7 := lot.Short(a.d)
	honest, e8 := lot.Honest(a.d, a.promises, a.numbers, a.assignment)
	return []result{{promise, e1}, {cheats, e2}, {is, e3}, {many, e4}, {picked, e5}, {index, e6}, {tests, e7}, {honest, e8}}
}

// errorsOf are the errors that each of these functions returns.
var errorsOf = [][]api.Errno{
	{api.OK, api.ErrRange},
	{api.OK, api.ErrLong, api.ErrRange},
	{api.OK, api.ErrLong, api.ErrRange},
	{api.OK, api.ErrLong, api.ErrRange},
	{api.OK, api.ErrLong, api.ErrRange, api.ErrDown},
	{api.OK, api.ErrArg, api.ErrLong, api.ErrNone, api.ErrRange},
	{api.OK, api.ErrLong, api.ErrRange},
	{api.OK, api.ErrLong, api.ErrRange},
}

// TestAnyArguments checks P8.13 and P1: all functions accept any arguments, do
// not change them, return the same for the same ones, and nothing with an
// error.
func TestAnyArguments(t *testing.T) {
	r := rand.New(rand.NewSource(813))
	returned := make([]map[api.Errno]int, len(errorsOf))
	for i := range returned {
		returned[i] = map[api.Errno]int{}
	}
	for range 10000 {
		a := wildArguments(r)
		old := a.clone()
		first := a.results()
		if second := a.results(); !reflect.DeepEqual(first, second) {
			t.Fatalf("%v: %v, then %v", a, first, second)
		}
		if part, at, e := lot.Check(a.d); e == api.OK && (part != 0 || at != 0) || e != api.OK && (part < 1 || part > 3) {
			t.Fatalf("%v: Check = %d, %d, %d", a, part, at, e)
		}
		if !reflect.DeepEqual(a, old) {
			t.Fatalf("arguments have changed: %v, not %v", a, old)
		}
		for i, one := range first {
			returned[i][one.e]++
			if one.e != api.OK && !reflect.ValueOf(one.value).IsZero() {
				t.Fatalf("%v: the function %d returns %v with the error %d", a, i, one.value, one.e)
			}
		}
	}
	for i, many := range returned {
		for _, e := range errorsOf[i] {
			if many[e] < 100 {
				t.Errorf("the function %d returns %d only %d times", i, e, many[e])
			}
		}
		if len(many) != len(errorsOf[i]) {
			t.Errorf("the function %d returns %v", i, many)
		}
	}
}

// spoil overwrites a slice, and all that lies behind it in the same memory.
func spoil(list []int) {
	list = list[:cap(list)]
	for i := range list {
		list[i] = -99
	}
}

// TestResultsAreNewMemory checks P8.13: it overwrites results, and neither
// arguments nor further results change.
func TestResultsAreNewMemory(t *testing.T) {
	grown := func(list ...int) []int { return slices.Grow(list, 8) }
	d := api.LoDraw{Times: grown(1, 1, 2), Knows: grown(1, 1, 6, 6)}
	promises, numbers := grown(152436061, 0, 1), grown(0, 0, 0)
	solvable := api.LoDraw{Times: d.Times, Knows: d.Knows[:3]}
	for range 2 {
		cheats, e := lot.Cheats(promises, numbers)
		if !slices.Equal(cheats, []int{1, 2}) || e != api.OK {
			t.Fatalf("Cheats = %v, %d", cheats, e)
		}
		spoil(cheats)
		picked, e := lot.Pick(solvable, 1)
		if !slices.Equal(picked, []int{2, 1, 0}) || e != api.OK {
			t.Fatalf("Pick = %v, %d", picked, e)
		}
		spoil(picked)
		tests, e := lot.Short(d)
		if !slices.Equal(tests, []int{2, 3}) || e != api.OK {
			t.Fatalf("Short = %v, %d", tests, e)
		}
		spoil(tests)
		for i, list := range [][]int{d.Times, d.Knows, promises, numbers} {
			if want := [][]int{{1, 1, 2}, {1, 1, 6, 6}, {152436061, 0, 1}, {0, 0, 0}}[i]; !slices.Equal(list, want) {
				t.Fatalf("a result shares the memory of an argument: %v, not %v", list, want)
			}
		}
	}
}

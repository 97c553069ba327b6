package lot_test

import (
	"math"
	"slices"
	"testing"

	"bitepoint/api"
	"bitepoint/lot"
)

// free is a draw with examiners who all can take so many tests, and know nobody.
func free(examiners, times, tests int) api.LoDraw {
	return api.LoDraw{Times: slices.Repeat([]int{times}, examiners), Knows: make([]int, tests)}
}

// checkCases are changes of the example, and where its first error is then.
var checkCases = []struct {
	change   func(d *api.LoDraw)
	part, at int
	e        api.Errno
}{
	{func(d *api.LoDraw) {}, 0, 0, api.OK},
	// How many there are.
	{func(d *api.LoDraw) { *d = api.LoDraw{} }, 1, 0, api.ErrLong},
	{func(d *api.LoDraw) { d.Times, d.Knows[1] = nil, -1 }, 1, 0, api.ErrLong},
	{func(d *api.LoDraw) { d.Times, d.Knows = []int{}, nil }, 1, 0, api.ErrLong},
	{func(d *api.LoDraw) { *d = free(1, 1, 1) }, 0, 0, api.OK},
	{func(d *api.LoDraw) { *d = free(6, 1, 1) }, 0, 0, api.OK},
	{func(d *api.LoDraw) { *d = free(7, 1, 1) }, 1, 0, api.ErrLong},
	{func(d *api.LoDraw) { *d = free(7, 5, 1) }, 1, 0, api.ErrLong},
	{func(d *api.LoDraw) { d.Knows = nil }, 0, 0, api.OK},
	{func(d *api.LoDraw) { d.Knows = []int{} }, 0, 0, api.OK},
	{func(d *api.LoDraw) { d.Knows = make([]int, 8) }, 0, 0, api.OK},
	{func(d *api.LoDraw) { d.Knows = make([]int, 9) }, 1, 0, api.ErrLong},
	{func(d *api.LoDraw) { d.Knows, d.Times[0] = slices.Repeat([]int{-1}, 9), 5 }, 1, 0, api.ErrLong},
	// Times.
	{func(d *api.LoDraw) { d.Times[0], d.Times[2] = 0, 4 }, 0, 0, api.OK},
	{func(d *api.LoDraw) { d.Times[0] = 5 }, 2, 0, api.ErrRange},
	{func(d *api.LoDraw) { d.Times[0] = -1 }, 2, 0, api.ErrRange},
	{func(d *api.LoDraw) { d.Times[1], d.Times[2], d.Knows[0] = 5, -1, 8 }, 2, 1, api.ErrRange},
	{func(d *api.LoDraw) { d.Times[1], d.Times[2] = -1, 5 }, 2, 1, api.ErrRange},
	{func(d *api.LoDraw) { d.Times[2], d.Knows = 5, nil }, 2, 2, api.ErrRange},
	{func(d *api.LoDraw) { d.Times[2] = math.MaxInt }, 2, 2, api.ErrRange},
	{func(d *api.LoDraw) { d.Times[2] = math.MinInt }, 2, 2, api.ErrRange},
	// Knows: below 2 to the power of the number of examiners.
	{func(d *api.LoDraw) { d.Knows[0], d.Knows[1] = 7, 0 }, 0, 0, api.OK},
	{func(d *api.LoDraw) { d.Knows[0], d.Knows[1] = 8, -1 }, 3, 0, api.ErrRange},
	{func(d *api.LoDraw) { d.Knows[1], d.Knows[2] = -1, 8 }, 3, 1, api.ErrRange},
	{func(d *api.LoDraw) { d.Knows[2] = 9 }, 3, 2, api.ErrRange},
	{func(d *api.LoDraw) { d.Knows[2] = math.MaxInt }, 3, 2, api.ErrRange},
	{func(d *api.LoDraw) { d.Knows[2] = math.MinInt }, 3, 2, api.ErrRange},
	{func(d *api.LoDraw) { d.Knows[0] = 1 << 32 }, 3, 0, api.ErrRange},
	{func(d *api.LoDraw) { d.Times = d.Times[:2] }, 3, 2, api.ErrRange},
	{func(d *api.LoDraw) { d.Times, d.Knows = []int{1}, []int{1} }, 0, 0, api.OK},
	{func(d *api.LoDraw) { d.Times, d.Knows = []int{1}, []int{2} }, 3, 0, api.ErrRange},
	{func(d *api.LoDraw) { *d = free(6, 4, 8); d.Knows[7] = 63 }, 0, 0, api.OK},
	{func(d *api.LoDraw) { *d = free(6, 4, 8); d.Knows[7] = 64 }, 3, 7, api.ErrRange},
}

// TestCheck checks what P8.2 says of Check, and that all functions with a draw
// return its error first.
func TestCheck(t *testing.T) {
	for i, c := range checkCases {
		d := example()
		c.change(&d)
		if part, at, e := lot.Check(d); part != c.part || at != c.at || e != c.e {
			t.Errorf("%d: Check = %d, %d, %d, not %d, %d, %d", i, part, at, e, c.part, c.at, c.e)
		}
		// What the functions return first of their own errors comes behind it.
		after := func(e api.Errno) api.Errno {
			if c.e != api.OK {
				return c.e
			}
			return e
		}
		if many, e := lot.Count(d); e != c.e || e != api.OK && many != 0 {
			t.Errorf("%d: Count = %d, %d", i, many, e)
		}
		if assignment, e := lot.Pick(d, -1); assignment != nil || e != after(api.ErrRange) {
			t.Errorf("%d: Pick = %v, %d", i, assignment, e)
		}
		if index, e := lot.Index(d, make([]int, len(d.Knows)+1)); index != 0 || e != after(api.ErrLong) {
			t.Errorf("%d: Index = %d, %d", i, index, e)
		}
		if tests, e := lot.Short(d); e != c.e || e != api.OK && tests != nil {
			t.Errorf("%d: Short = %v, %d", i, tests, e)
		}
		if honest, e := lot.Honest(d, []int{-1}, []int{-1}, nil); honest || e != after(api.ErrRange) {
			t.Errorf("%d: Honest = %t, %d", i, honest, e)
		}
	}
}

// TestCount checks what P8.2 says of Count.
func TestCount(t *testing.T) {
	for i, c := range []struct {
		d    api.LoDraw
		want int
	}{
		{example(), 3},
		{without(), 0},
		{free(1, 0, 0), 1},
		{free(6, 4, 0), 1},
		{free(1, 0, 1), 0},
		{free(1, 4, 4), 1},
		{free(1, 4, 5), 0},
		{free(2, 4, 8), 70},
		{free(2, 1, 2), 2},
		{free(3, 4, 4), 81},
		{free(3, 3, 4), 78},
		{free(6, 1, 6), 720},
		{free(6, 1, 7), 0},
		{free(6, 1, 8), 0},
		{free(6, 4, 4), 1296},
		{free(6, 2, 8), 37800 + 302400 + 151200}, // four examiners with two tests, or three, or two
		{api.LoDraw{Times: []int{4}, Knows: []int{1}}, 0},
		{api.LoDraw{Times: []int{4, 4}, Knows: []int{1, 2, 1, 2}}, 1},
		{api.LoDraw{Times: []int{4, 4}, Knows: []int{1, 3, 1, 2}}, 0},
		{api.LoDraw{Times: []int{1, 2}, Knows: []int{2, 0, 0}}, 1},
		{api.LoDraw{Times: []int{0, 0, 3}, Knows: []int{0, 3, 1}}, 1},
		{api.LoDraw{Times: []int{4, 4, 4, 4, 4, 4}, Knows: []int{62, 61, 59, 55, 47, 31, 0, 0}}, 36},
	} {
		if many, e := lot.Count(c.d); many != c.want || e != api.OK {
			t.Errorf("%d: Count = %d, %d, not %d", i, many, e, c.want)
		}
	}
}

// TestPickAndIndex checks P8.3.
func TestPickAndIndex(t *testing.T) {
	none := free(2, 4, 0)
	for i, c := range []struct {
		d      api.LoDraw
		lot    int
		picked []int
		e      api.Errno
	}{
		{example(), 0, []int{1, 2, 0}, api.OK},
		{example(), 1, []int{2, 1, 0}, api.OK},
		{example(), 2, []int{2, 2, 0}, api.OK},
		{example(), 3, []int{1, 2, 0}, api.OK},
		{example(), 4, []int{2, 1, 0}, api.OK},
		{example(), 2147483646, []int{1, 2, 0}, api.OK},
		{example(), 2147483645, []int{2, 2, 0}, api.OK},
		{example(), 2147483647, nil, api.ErrRange},
		{example(), -1, nil, api.ErrRange},
		{example(), math.MaxInt, nil, api.ErrRange},
		{example(), math.MinInt, nil, api.ErrRange},
		{without(), 0, nil, api.ErrDown},
		{without(), 2147483646, nil, api.ErrDown},
		{without(), 2147483647, nil, api.ErrRange},
		{without(), -1, nil, api.ErrRange},
		{none, 0, nil, api.OK},
		{none, 77, nil, api.OK},
		{none, -1, nil, api.ErrRange},
		{free(1, 0, 1), 5, nil, api.ErrDown},
		{free(2, 4, 8), 0, []int{0, 0, 0, 0, 1, 1, 1, 1}, api.OK},
		{free(2, 4, 8), 1, []int{0, 0, 0, 1, 0, 1, 1, 1}, api.OK},
		{free(2, 4, 8), 69, []int{1, 1, 1, 1, 0, 0, 0, 0}, api.OK},
		{free(2, 4, 8), 70, []int{0, 0, 0, 0, 1, 1, 1, 1}, api.OK},
	} {
		if picked, e := lot.Pick(c.d, c.lot); !slices.Equal(picked, c.picked) || e != c.e {
			t.Errorf("%d: Pick by %d = %v, %d, not %v, %d", i, c.lot, picked, e, c.picked, c.e)
		}
	}
	for i, c := range []struct {
		d          api.LoDraw
		assignment []int
		index      int
		e          api.Errno
	}{
		{example(), []int{1, 2, 0}, 0, api.OK},
		{example(), []int{2, 1, 0}, 1, api.OK},
		{example(), []int{2, 2, 0}, 2, api.OK},
		{example(), []int{1, 1, 0}, 0, api.ErrArg}, // 1 can take one alone
		{example(), []int{0, 2, 0}, 0, api.ErrArg}, // 0 knows the learner of 0
		{example(), []int{2, 2, 2}, 0, api.ErrArg},
		{example(), []int{2, 1, 1}, 0, api.ErrArg}, // 1 knows the learner of 2
		{example(), nil, 0, api.ErrLong},
		{example(), []int{1, 2}, 0, api.ErrLong},
		{example(), []int{1, 2, 0, 0}, 0, api.ErrLong},
		{example(), []int{3, 2, 0, 0}, 0, api.ErrLong},
		{example(), []int{1, 2, 3}, 0, api.ErrNone},
		{example(), []int{-1, 2, 0}, 0, api.ErrNone},
		{example(), []int{0, 0, 3}, 0, api.ErrNone},
		{example(), []int{0, math.MaxInt, 0}, 0, api.ErrNone},
		{example(), []int{math.MinInt, 0, 0}, 0, api.ErrNone},
		{free(2, 4, 3), []int{0, 5, 0}, 0, api.ErrNone}, // none, though there can be as many
		{without(), []int{1, 2, 0, 0}, 0, api.ErrArg},
		{without(), []int{1, 2, 0, 3}, 0, api.ErrNone},
		{none, nil, 0, api.OK},
		{none, []int{}, 0, api.OK},
		{none, []int{0}, 0, api.ErrLong},
		{free(2, 4, 8), []int{1, 1, 1, 1, 0, 0, 0, 0}, 69, api.OK},
		{free(2, 4, 8), []int{1, 1, 1, 1, 0, 0, 0, 1}, 0, api.ErrArg},
	} {
		if index, e := lot.Index(c.d, c.assignment); index != c.index || e != c.e {
			t.Errorf("%d: Index of %v = %d, %d, not %d, %d", i, c.assignment, index, e, c.index, c.e)
		}
	}
}

// TestShort checks P8.4.
func TestShort(t *testing.T) {
	for i, c := range []struct {
		d    api.LoDraw
		want []int
	}{
		{example(), nil},
		{without(), []int{2, 3}},
		{free(1, 0, 0), nil},
		{free(1, 0, 1), []int{0}},
		{free(1, 0, 3), []int{0}},
		{free(6, 1, 6), nil},
		{free(6, 1, 7), []int{0, 1, 2, 3, 4, 5, 6}},
		{free(6, 1, 8), []int{0, 1, 2, 3, 4, 5, 6}},
		{free(1, 4, 8), []int{0, 1, 2, 3, 4}},
		{free(2, 4, 8), nil},
		// All know the learner of the test 2.
		{api.LoDraw{Times: []int{4, 4}, Knows: []int{0, 1, 3}}, []int{2}},
		{api.LoDraw{Times: []int{4, 4}, Knows: []int{3, 1, 3}}, []int{0}},
		// Who can take the test 1 can take none.
		{api.LoDraw{Times: []int{4, 0}, Knows: []int{0, 1, 2}}, []int{1}},
		// One test is fewer than two that come first.
		{api.LoDraw{Times: []int{1, 1, 4}, Knows: []int{6, 6, 0, 7}}, []int{3}},
		{api.LoDraw{Times: []int{1, 1, 4}, Knows: []int{6, 5, 0, 5, 6}}, []int{0, 4}},
		{api.LoDraw{Times: []int{1, 1, 4}, Knows: []int{0, 5, 6, 6, 5}}, []int{1, 4}},
		// The lists 1, 2, 3 and 0, 4, 5: the second one comes first.
		{api.LoDraw{Times: []int{2, 2}, Knows: []int{2, 1, 1, 1, 2, 2}}, []int{0, 4, 5}},
		// Of the lists 0, 3 and 1, 2 the first one.
		{api.LoDraw{Times: []int{1, 1}, Knows: []int{1, 2, 2, 1}}, []int{0, 3}},
		{api.LoDraw{Times: []int{1, 1, 1}, Knows: []int{4, 4, 4, 0}}, []int{0, 1, 2}},
		// Each of the two tests could be taken, but not both.
		{api.LoDraw{Times: []int{0, 0, 0, 0, 0, 1}, Knows: []int{31, 0}}, []int{0, 1}},
	} {
		if tests, e := lot.Short(c.d); !slices.Equal(tests, c.want) || e != api.OK {
			t.Errorf("%d: Short = %v, %d, not %v", i, tests, e, c.want)
		}
	}
}

// TestHonest checks P8.5.
func TestHonest(t *testing.T) {
	none := free(2, 4, 0)
	const kept, other = 152436061, 152436062 // what is promised of the number 0, and something else
	for i, c := range []struct {
		d                             api.LoDraw
		promises, numbers, assignment []int
		want                          bool
		e                             api.Errno
	}{
		{example(), []int{kept}, []int{0}, []int{2, 1, 0}, true, api.OK},
		{example(), []int{kept}, []int{0}, []int{1, 2, 0}, false, api.OK},
		{example(), []int{other}, []int{0}, []int{2, 1, 0}, false, api.OK},
		{example(), []int{kept}, []int{1}, []int{2, 2, 0}, false, api.OK},
		{example(), promisesOf([]int{1}), []int{1}, []int{2, 2, 0}, true, api.OK},
		{example(), promisesOf([]int{2}), []int{2}, []int{1, 2, 0}, true, api.OK},
		{example(), []int{kept, 153995626}, []int{0, 0}, []int{2, 2, 0}, true, api.OK}, // 1000004 modulo 3 is 2
		{example(), []int{kept, 153995626}, []int{0, 0}, []int{2, 1, 0}, false, api.OK},
		{example(), []int{kept, 153995627}, []int{0, 0}, []int{2, 2, 0}, false, api.OK},
		{example(), []int{153995626, kept}, []int{0, 0}, []int{2, 2, 0}, false, api.OK},
		// What is no examiner, or not allowed, is no error.
		{example(), []int{kept}, []int{0}, []int{2, 1, 3}, false, api.OK},
		{example(), []int{kept}, []int{0}, []int{-1, math.MaxInt, math.MinInt}, false, api.OK},
		{example(), []int{kept}, []int{0}, []int{1, 1, 0}, false, api.OK},
		// No assignment is picked, if none is allowed.
		{without(), []int{kept}, []int{0}, []int{1, 2, 0, 0}, false, api.OK},
		{without(), []int{kept}, []int{0}, []int{0, 0, 0, 0}, false, api.OK},
		{without(), []int{other}, []int{0}, []int{0, 0, 0, 0}, false, api.OK},
		{none, []int{kept}, []int{0}, nil, true, api.OK},
		{none, []int{kept}, []int{0}, []int{}, true, api.OK},
		{none, []int{other}, []int{0}, nil, false, api.OK},
		// A list that is too short or too long.
		{example(), []int{kept}, []int{0}, nil, false, api.ErrLong},
		{example(), []int{kept}, []int{0}, []int{2, 1}, false, api.ErrLong},
		{example(), []int{kept}, []int{0}, []int{2, 1, 0, 0}, false, api.ErrLong},
		{example(), []int{other}, []int{0}, []int{2, 1}, false, api.ErrLong},
		{without(), []int{kept}, []int{0}, []int{1, 2, 0}, false, api.ErrLong},
		{none, []int{kept}, []int{0}, []int{0}, false, api.ErrLong},
		// Errors of the promises come before it.
		{example(), []int{-1}, []int{0}, nil, false, api.ErrRange},
		{example(), []int{2147483647}, []int{0}, []int{2, 1, 0}, false, api.ErrRange},
		{without(), []int{2147483647}, []int{0}, []int{1, 2, 0, 0}, false, api.ErrRange},
	} {
		if is, e := lot.Honest(c.d, c.promises, c.numbers, c.assignment); is != c.want || e != c.e {
			t.Errorf("%d: Honest = %t, %d, not %t, %d", i, is, e, c.want, c.e)
		}
	}
	// The errors of numbers and of promises are those that Cheats returns.
	for i, c := range cheatCases {
		if c.e == api.OK {
			continue
		}
		if is, e := lot.Honest(example(), c.promises, c.numbers, nil); is || e != c.e {
			t.Errorf("%d: Honest = %t, %d, not %d", i, is, e, c.e)
		}
	}
}

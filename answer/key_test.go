package answer_test

import (
	"math"
	"math/rand"
	"reflect"
	"slices"
	"testing"

	"bitepoint/answer"
	"bitepoint/api"
)

// example is K of the document's examples.
func example() api.AnKey {
	return api.AnKey{
		Questions: []api.AnQuestion{{Part: 0, Boxes: 3, Right: 1, Points: 4, Minus: 1}, {Part: 0, Boxes: 2, Right: 0, Points: 3}, {Part: 1, Boxes: 3, Right: 2, Points: 5, Minus: 2}},
		Parts:     []int{3, 0},
		All:       7,
	}
}

// exampleSheet is S of the document's examples.
func exampleSheet() [][]int { return [][]int{{0, 1, 2}, {1, 0}, {2, 0, 1}} }

// needing is K of the document's examples, if other points are needed of all.
func needing(all int) api.AnKey {
	k := example()
	k.All = all
	return k
}

// plain is a key of one part with so many questions, each of them with so many
// boxes, of which the first one is right and gives a point.
func plain(questions, boxes, all int) api.AnKey {
	return api.AnKey{Questions: slices.Repeat([]api.AnQuestion{{Boxes: boxes, Points: 1}}, questions), Parts: []int{-240}, All: all}
}

// cloneKey is a copy of a key, without shared memory.
func cloneKey(k api.AnKey) api.AnKey {
	k.Questions, k.Parts = slices.Clone(k.Questions), slices.Clone(k.Parts)
	return k
}

// checkCases are changes of the example, and where its first error is then.
var checkCases = []struct {
	change   func(k *api.AnKey)
	part, at int
	e        api.Errno
}{
	{func(k *api.AnKey) {}, 0, 0, api.OK},
	// How many there are.
	{func(k *api.AnKey) { *k = api.AnKey{} }, 1, 0, api.ErrLong},
	{func(k *api.AnKey) { k.Questions, k.Parts[0], k.All = nil, 241, 241 }, 1, 0, api.ErrLong},
	{func(k *api.AnKey) { k.Questions = []api.AnQuestion{} }, 1, 0, api.ErrLong},
	{func(k *api.AnKey) { k.Questions = k.Questions[:1] }, 0, 0, api.OK},
	{func(k *api.AnKey) { k.Questions = slices.Repeat(k.Questions, 4) }, 0, 0, api.OK},
	{func(k *api.AnKey) { k.Questions = append(slices.Repeat(k.Questions, 4), k.Questions[0]) }, 1, 0, api.ErrLong},
	{func(k *api.AnKey) { k.Questions = make([]api.AnQuestion, 13) }, 1, 0, api.ErrLong},
	{func(k *api.AnKey) { k.Parts, k.Questions[0].Part = nil, 7 }, 1, 0, api.ErrLong},
	{func(k *api.AnKey) { k.Parts = []int{} }, 1, 0, api.ErrLong},
	{func(k *api.AnKey) { k.Questions, k.Parts = k.Questions[:2], k.Parts[:1] }, 0, 0, api.OK},
	{func(k *api.AnKey) { k.Parts = []int{1, 2, 3, 4} }, 0, 0, api.OK},
	{func(k *api.AnKey) { k.Parts, k.Questions[0].Part = []int{1, 2, 3, 4, 5}, -1 }, 1, 0, api.ErrLong},
	// Questions.
	{func(k *api.AnKey) { k.Questions[0] = api.AnQuestion{Part: -1, Boxes: 1, Right: 1, Points: -1} }, 2, 0, api.ErrNone},
	{func(k *api.AnKey) { k.Questions[1].Part, k.Questions[2].Boxes = 2, 5 }, 2, 1, api.ErrNone},
	{func(k *api.AnKey) { k.Parts = k.Parts[:1] }, 2, 2, api.ErrNone},
	{func(k *api.AnKey) { k.Questions[2].Part, k.Parts[0] = math.MaxInt, 241 }, 2, 2, api.ErrNone},
	{func(k *api.AnKey) { k.Questions[2].Part = math.MinInt }, 2, 2, api.ErrNone},
	{func(k *api.AnKey) { k.Questions[0].Boxes, k.Questions[0].Right, k.Questions[1].Part = 1, 1, -1 }, 2, 0, api.ErrRange},
	{func(k *api.AnKey) { k.Questions[1].Boxes, k.Questions[1].Right = 1, 0 }, 2, 1, api.ErrRange},
	{func(k *api.AnKey) { k.Questions[1].Boxes, k.Questions[1].Right = 0, -1 }, 2, 1, api.ErrRange},
	{func(k *api.AnKey) { k.Questions[2].Boxes, k.Questions[2].Right = 5, 5 }, 2, 2, api.ErrRange},
	{func(k *api.AnKey) { k.Questions[2].Boxes = 4 }, 0, 0, api.OK},
	{func(k *api.AnKey) { k.Questions[2].Boxes = math.MaxInt }, 2, 2, api.ErrRange},
	{func(k *api.AnKey) { k.Questions[2].Boxes = math.MinInt }, 2, 2, api.ErrRange},
	{func(k *api.AnKey) { k.Questions[2].Right, k.Questions[2].Points = 3, 21 }, 2, 2, api.ErrNone},
	{func(k *api.AnKey) { k.Questions[2].Right, k.Questions[2].Minus = -1, -1 }, 2, 2, api.ErrNone},
	{func(k *api.AnKey) { k.Questions[1].Right = 1 }, 0, 0, api.OK},
	{func(k *api.AnKey) { k.Questions[1].Right = 2 }, 2, 1, api.ErrNone},
	{func(k *api.AnKey) { k.Questions[1].Right = math.MaxInt }, 2, 1, api.ErrNone},
	{func(k *api.AnKey) { k.Questions[1].Right = math.MinInt }, 2, 1, api.ErrNone},
	{func(k *api.AnKey) { k.Questions[0].Points, k.Questions[1].Part = -1, 2 }, 2, 0, api.ErrRange},
	{func(k *api.AnKey) { k.Questions[0].Points = 0 }, 0, 0, api.OK},
	{func(k *api.AnKey) { k.Questions[0].Points = 20 }, 0, 0, api.OK},
	{func(k *api.AnKey) { k.Questions[0].Points = 21 }, 2, 0, api.ErrRange},
	{func(k *api.AnKey) { k.Questions[0].Points = math.MaxInt }, 2, 0, api.ErrRange},
	{func(k *api.AnKey) { k.Questions[0].Points = math.MinInt }, 2, 0, api.ErrRange},
	{func(k *api.AnKey) { k.Questions[2].Minus, k.Parts[0] = -1, 241 }, 2, 2, api.ErrRange},
	{func(k *api.AnKey) { k.Questions[2].Minus = 0 }, 0, 0, api.OK},
	{func(k *api.AnKey) { k.Questions[2].Minus = 20 }, 0, 0, api.OK},
	{func(k *api.AnKey) { k.Questions[2].Minus = 21 }, 2, 2, api.ErrRange},
	{func(k *api.AnKey) { k.Questions[2].Minus = math.MaxInt }, 2, 2, api.ErrRange},
	{func(k *api.AnKey) { k.Questions[2].Minus = math.MinInt }, 2, 2, api.ErrRange},
	// What is needed of parts.
	{func(k *api.AnKey) { k.Parts[0], k.Parts[1], k.All = -241, 241, 241 }, 3, 0, api.ErrRange},
	{func(k *api.AnKey) { k.Parts[1], k.All = 241, -241 }, 3, 1, api.ErrRange},
	{func(k *api.AnKey) { k.Parts = []int{0, 0, 0, 241} }, 3, 3, api.ErrRange},
	{func(k *api.AnKey) { k.Parts[0], k.Parts[1] = -240, 240 }, 0, 0, api.OK},
	{func(k *api.AnKey) { k.Parts[0] = math.MinInt }, 3, 0, api.ErrRange},
	{func(k *api.AnKey) { k.Parts[1] = math.MaxInt }, 3, 1, api.ErrRange},
	// What is needed of all.
	{func(k *api.AnKey) { k.All = 240 }, 0, 0, api.OK},
	{func(k *api.AnKey) { k.All = -240 }, 0, 0, api.OK},
	{func(k *api.AnKey) { k.All = 241 }, 4, 0, api.ErrRange},
	{func(k *api.AnKey) { k.All = -241 }, 4, 0, api.ErrRange},
	{func(k *api.AnKey) { k.All = math.MaxInt }, 4, 0, api.ErrRange},
	{func(k *api.AnKey) { k.All = math.MinInt }, 4, 0, api.ErrRange},
}

// TestCheck checks P7.1, and that all functions return the error of the key
// first.
func TestCheck(t *testing.T) {
	for i, c := range checkCases {
		k := example()
		c.change(&k)
		if part, at, e := answer.Check(k); part != c.part || at != c.at || e != c.e {
			t.Errorf("%d: Check = %d, %d, %d, not %d, %d, %d", i, part, at, e, c.part, c.at, c.e)
		}
		// What the functions return first of their own errors comes behind it.
		after := func(e api.Errno) api.Errno {
			if c.e != api.OK {
				return c.e
			}
			return e
		}
		for j, e := range sheetErrors(k, nil) {
			if e != after(api.ErrLong) {
				t.Errorf("%d: the function %d returns %d", i, j, e)
			}
		}
		if struck, e := answer.Strike(k, -1); !reflect.ValueOf(struck).IsZero() || e != after(api.ErrNone) {
			t.Errorf("%d: Strike = %v, %d", i, struck, e)
		}
		if missed, e := answer.Missed(k, make([][][]int, 21)); missed != nil || e != after(api.ErrLong) {
			t.Errorf("%d: Missed = %v, %d", i, missed, e)
		}
		if _, e := answer.Missed(k, nil); e != c.e {
			t.Errorf("%d: Missed without sheets = %d", i, e)
		}
	}
}

// sheetErrors are the errors of all functions with a sheet.
func sheetErrors(k api.AnKey, sheet [][]int) []api.Errno {
	_, _, e1 := answer.Mark(k, sheet)
	_, e2 := answer.Outcome(k, sheet)
	_, e3 := answer.Scores(k, sheet)
	_, e4 := answer.Decide(k, sheet)
	_, _, e5 := answer.Look(k, sheet)
	_, e6 := answer.Missed(k, [][][]int{sheet})
	return []api.Errno{e1, e2, e3, e4, e5, e6}
}

// TestSheetErrors checks the error of a sheet, of all functions with one.
func TestSheetErrors(t *testing.T) {
	for i, c := range []struct {
		k     api.AnKey
		sheet [][]int
		e     api.Errno
	}{
		{example(), [][]int{}, api.ErrLong},
		{example(), [][]int{{3}, {1}}, api.ErrLong},
		{example(), [][]int{{0, 1, 2}, {1, 0}}, api.ErrLong},
		{example(), [][]int{{0, 1, 2}, {1, 0}, {2, 0, 1}, {1, 0}}, api.ErrLong},
		{example(), [][]int{{0, 1, 2}, {1, 0}, {2, 0, 1}, nil}, api.ErrLong},
		// The first question with an error.
		{example(), [][]int{{0, 1}, {1, 3}, {2, 0, 1}}, api.ErrLong},
		{example(), [][]int{{0, 1, 3}, {1}, {2, 0, 1}}, api.ErrRange},
		{example(), [][]int{{0, 1, 2}, {1, 0, 0}, {2, 0, 3}}, api.ErrLong},
		{example(), [][]int{{0, 1, 2}, {1, -1}, {2, 0, 1, 0}}, api.ErrRange},
		{example(), [][]int{{0, 1, 2}, {1, 0}, {2, 0}}, api.ErrLong},
		{example(), [][]int{{0, 1, 2}, {1, 0}, {2, 0, 1, 0}}, api.ErrLong},
		{example(), [][]int{{0, 1, 2}, {1, 0}, nil}, api.ErrLong},
		{example(), [][]int{{0, 1, 2}, {1, 0}, {2, 0, 3}}, api.ErrRange},
		{example(), [][]int{{-1, 1, 2}, {1, 0}, {2, 0, 1}}, api.ErrRange},
		{example(), [][]int{{0, 1, 2}, {1, 0}, {2, math.MaxInt, 1}}, api.ErrRange},
		{example(), [][]int{{0, 1, 2}, {1, math.MinInt}, {2, 0, 1}}, api.ErrRange},
		// More boxes than stated, and one of them shows something else.
		{example(), [][]int{{0, 1, 2, 3}, {1, 0}, {2, 0, 1}}, api.ErrLong},
		{example(), [][]int{{0, 1, 2, 0, 3}, {1, 0}, {2, 0, 1}}, api.ErrLong},
		// Too many unsure boxes come behind all errors of questions.
		{example(), [][]int{{2, 2, 2}, {2, 2}, {2, 2, 2}}, api.ErrLong},
		{example(), [][]int{{2, 2, 2}, {2, 2}, {2, 2, 3}}, api.ErrRange},
		{plain(12, 4, 0), slices.Repeat([][]int{{2, 2, 2, 2}}, 12), api.ErrLong},
		{plain(12, 4, 0), append(slices.Repeat([][]int{{2, 2, 2, 2}}, 11), []int{2, 2, 2, 4}), api.ErrRange},
		{plain(8, 2, 0), slices.Repeat([][]int{{2, 0}}, 8), api.ErrLong},
		{plain(8, 2, 0), slices.Repeat([][]int{{0, 2}}, 8), api.ErrLong},
	} {
		for j, e := range sheetErrors(c.k, c.sheet) {
			if e != c.e {
				t.Errorf("%d: the function %d returns %d, not %d", i, j, e, c.e)
			}
		}
	}
	for i, e := range sheetErrors(plain(8, 2, 0), append(slices.Repeat([][]int{{0, 2}}, 7), []int{1, 1})) {
		if want := []api.Errno{api.ErrArg, api.OK, api.OK, api.OK, api.ErrNone, api.OK}[i]; e != want {
			t.Errorf("with 7 unsure boxes the function %d returns %d, not %d", i, e, want)
		}
	}
}

// TestStrike checks P7.5.
func TestStrike(t *testing.T) {
	q := example().Questions
	low := func(part, all int) api.AnKey {
		k := example()
		k.Parts[1], k.All = part, all
		return k
	}
	worthless := example()
	worthless.Questions[1].Points, worthless.Parts[0], worthless.All = 0, -240, -240
	single := api.AnKey{Questions: q[:1], Parts: []int{-240}, All: -240}
	for i, c := range []struct {
		k        api.AnKey
		question int
		want     api.AnKey
		e        api.Errno
	}{
		{example(), 0, api.AnKey{Questions: []api.AnQuestion{q[1], q[2]}, Parts: []int{-1, 0}, All: 3}, api.OK},
		{example(), 1, api.AnKey{Questions: []api.AnQuestion{q[0], q[2]}, Parts: []int{0, 0}, All: 4}, api.OK},
		{example(), 2, api.AnKey{Questions: []api.AnQuestion{q[0], q[1]}, Parts: []int{3, -5}, All: 2}, api.OK},
		{example(), 3, api.AnKey{}, api.ErrNone},
		{example(), -1, api.AnKey{}, api.ErrNone},
		{example(), math.MaxInt, api.AnKey{}, api.ErrNone},
		{example(), math.MinInt, api.AnKey{}, api.ErrNone},
		{single, 1, api.AnKey{}, api.ErrNone},
		{single, -1, api.AnKey{}, api.ErrNone},
		{single, 0, api.AnKey{}, api.ErrLong},
		{low(-235, -235), 2, api.AnKey{Questions: []api.AnQuestion{q[0], q[1]}, Parts: []int{3, -240}, All: -240}, api.OK},
		{low(-236, -235), 2, api.AnKey{}, api.ErrRange},
		{low(-235, -236), 2, api.AnKey{}, api.ErrRange},
		{low(-240, -240), 2, api.AnKey{}, api.ErrRange},
		// Just the part of the question counts.
		{low(-240, 0), 0, api.AnKey{Questions: []api.AnQuestion{q[1], q[2]}, Parts: []int{-1, -240}, All: -4}, api.OK},
		{worthless, 1, api.AnKey{Questions: []api.AnQuestion{q[0], q[2]}, Parts: []int{-240, 0}, All: -240}, api.OK},
		{worthless, 0, api.AnKey{}, api.ErrRange},
	} {
		if struck, e := answer.Strike(c.k, c.question); !reflect.DeepEqual(struck, c.want) || e != c.e {
			t.Errorf("%d: Strike of %d = %v, %d, not %v, %d", i, c.question, struck, e, c.want, c.e)
		}
	}
}

// TestStrikes checks P7.10: if a question is struck, a reading that passed still
// passes, and one in which it was right passes just if it did before. A key of
// which a question was struck has no error.
func TestStrikes(t *testing.T) {
	r := rand.New(rand.NewSource(710))
	passed, failed, saved := 0, 0, 0
	for range 4000 {
		k := randomKey(r)
		question := r.Intn(len(k.Questions))
		struck, e := answer.Strike(k, question)
		if e != api.OK {
			if !reflect.ValueOf(struck).IsZero() || e != api.ErrLong && e != api.ErrRange {
				t.Fatalf("%v: Strike of %d = %v, %d", k, question, struck, e)
			}
			continue
		}
		if part, at, e := answer.Check(struck); part != 0 || at != 0 || e != api.OK {
			t.Fatalf("%v: Check of %v = %d, %d, %d", k, struck, part, at, e)
		}
		sheet := randomSheet(r, k, 0)
		shorter := slices.Delete(slices.Clone(sheet), question, question+1)
		_, before, e := answer.Mark(k, sheet)
		_, after, f := answer.Mark(struck, shorter)
		right := answerOf(sheet[question]) == k.Questions[question].Right
		if e != api.OK || f != api.OK || before && !after || right && before != after {
			t.Fatalf("%v: %v passes: %t, %d, and without the question %d: %t, %d", k, sheet, before, e, question, after, f)
		}
		switch {
		case before && !right:
			passed++
		case right && !after:
			failed++
		case !before && after:
			saved++
		}
	}
	if passed < 100 || failed < 100 || saved < 100 {
		t.Errorf("%d passed, %d failed, %d were saved", passed, failed, saved)
	}
}

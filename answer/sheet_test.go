package answer_test

import (
	"slices"
	"testing"

	"bitepoint/answer"
	"bitepoint/api"
)

// strict is a key of three parts, one of which has no question; all wrong answers
// take points away.
func strict(parts []int, all int) api.AnKey {
	return api.AnKey{
		Questions: []api.AnQuestion{{Part: 2, Boxes: 4, Right: 3, Points: 20, Minus: 20}, {Part: 0, Boxes: 2, Right: 1, Points: 1, Minus: 7}, {Part: 2, Boxes: 3, Right: 0, Points: 0, Minus: 5}},
		Parts:     parts,
		All:       all,
	}
}

// TestMark checks P7.2.
func TestMark(t *testing.T) {
	for i, c := range []struct {
		k      api.AnKey
		sheet  [][]int
		points []int
		passes bool
		e      api.Errno
	}{
		{example(), [][]int{{0, 1, 0}, {1, 0}, {0, 0, 1}}, []int{7, 5}, true, api.OK},
		{example(), [][]int{{0, 1, 1}, {0, 1}, {1, 0, 0}}, []int{0, -2}, false, api.OK},
		{example(), exampleSheet(), nil, false, api.ErrArg},
		{example(), [][]int{{0, 1, 0}, {1, 0}, {0, 2, 1}}, nil, false, api.ErrArg},
		{example(), [][]int{{2, 1, 0}, {1, 0}, {0, 0, 1}}, nil, false, api.ErrArg},
		{example(), [][]int{{2, 1, 0}, {1, 0}, {0, 0}}, nil, false, api.ErrLong},
		// What is needed is just there, or of a part, or of all, a point more.
		{needing(12), [][]int{{0, 1, 0}, {1, 0}, {0, 0, 1}}, []int{7, 5}, true, api.OK},
		{needing(13), [][]int{{0, 1, 0}, {1, 0}, {0, 0, 1}}, []int{7, 5}, false, api.OK},
		{needing(3), [][]int{{0, 0, 0}, {1, 0}, {0, 0, 0}}, []int{3, 0}, true, api.OK},
		{needing(-9), [][]int{{1, 0, 0}, {1, 0}, {0, 0, 0}}, []int{2, 0}, false, api.OK},
		{needing(-9), [][]int{{0, 0, 0}, {1, 0}, {0, 1, 0}}, []int{3, -2}, false, api.OK},
		{needing(7), [][]int{{0, 1, 0}, {1, 0}, {0, 0, 0}}, []int{7, 0}, true, api.OK},
		{needing(8), [][]int{{0, 1, 0}, {1, 0}, {0, 0, 0}}, []int{7, 0}, false, api.OK},
		// No answer, as no box is marked, or as several are.
		{strict([]int{0, 0, 0}, 0), [][]int{{0, 0, 0, 0}, {0, 0}, {0, 0, 0}}, []int{0, 0, 0}, true, api.OK},
		{strict([]int{0, 0, 0}, 0), [][]int{{0, 0, 1, 1}, {1, 1}, {1, 0, 1}}, []int{0, 0, 0}, true, api.OK},
		{strict([]int{0, 0, 0}, 0), [][]int{{1, 1, 1, 1}, {1, 1}, {1, 1, 1}}, []int{0, 0, 0}, true, api.OK},
		{strict([]int{0, 0, 1}, 0), [][]int{{1, 1, 1, 1}, {1, 1}, {1, 1, 1}}, []int{0, 0, 0}, false, api.OK},
		// All parts have points, also those without a question.
		{strict([]int{1, 0, 20}, 21), [][]int{{0, 0, 0, 1}, {0, 1}, {1, 0, 0}}, []int{1, 0, 20}, true, api.OK},
		{strict([]int{1, 1, 20}, 21), [][]int{{0, 0, 0, 1}, {0, 1}, {1, 0, 0}}, []int{1, 0, 20}, false, api.OK},
		{strict([]int{1, 0, 20}, 22), [][]int{{0, 0, 0, 1}, {0, 1}, {1, 0, 0}}, []int{1, 0, 20}, false, api.OK},
		{strict([]int{-7, 0, -25}, -32), [][]int{{1, 0, 0, 0}, {1, 0}, {0, 0, 1}}, []int{-7, 0, -25}, true, api.OK},
		{strict([]int{-7, 0, -25}, -31), [][]int{{0, 1, 0, 0}, {1, 0}, {0, 1, 0}}, []int{-7, 0, -25}, false, api.OK},
		{strict([]int{-6, 0, -25}, -32), [][]int{{0, 0, 1, 0}, {1, 0}, {0, 1, 0}}, []int{-7, 0, -25}, false, api.OK},
		{strict([]int{-7, 0, -24}, -32), [][]int{{0, 0, 1, 0}, {1, 0}, {0, 1, 0}}, []int{-7, 0, -25}, false, api.OK},
		{strict([]int{-7, 0, 15}, -32), [][]int{{0, 0, 0, 1}, {1, 0}, {0, 1, 0}}, []int{-7, 0, 15}, true, api.OK},
		{plain(12, 2, 12), slices.Repeat([][]int{{1, 0}}, 12), []int{12}, true, api.OK},
		{plain(1, 4, 1), [][]int{{0, 1, 0, 0}}, []int{0}, false, api.OK},
	} {
		points, passes, e := answer.Mark(c.k, c.sheet)
		if !slices.Equal(points, c.points) || (points == nil) != (c.points == nil) || passes != c.passes || e != c.e {
			t.Errorf("%d: Mark = %v, %t, %d, not %v, %t, %d", i, points, passes, e, c.points, c.passes, c.e)
		}
	}
}

// TestOutcome checks P7.3.
func TestOutcome(t *testing.T) {
	most := append(slices.Repeat([][]int{{2, 0}}, 7), []int{1, 0})
	for i, c := range []struct {
		k       api.AnKey
		sheet   [][]int
		outcome int
		scores  []int
	}{
		{example(), exampleSheet(), api.AnDepends, []int{3, 7, 8, 12}},
		{needing(3), exampleSheet(), api.AnPasses, []int{3, 7, 8, 12}},
		{needing(4), exampleSheet(), api.AnDepends, []int{3, 7, 8, 12}},
		{needing(12), exampleSheet(), api.AnDepends, []int{3, 7, 8, 12}},
		{needing(13), exampleSheet(), api.AnFails, []int{3, 7, 8, 12}},
		// Without an unsure box there is one reading.
		{needing(12), [][]int{{0, 1, 0}, {1, 0}, {0, 0, 1}}, api.AnPasses, []int{12}},
		{needing(13), [][]int{{0, 1, 0}, {1, 0}, {0, 0, 1}}, api.AnFails, []int{12}},
		{needing(-2), [][]int{{0, 1, 1}, {0, 1}, {1, 0, 0}}, api.AnFails, []int{-2}},
		// Boxes that are not sure, and of no use: two others are marked already.
		{example(), [][]int{{2, 1, 1}, {1, 0}, {0, 0, 1}}, api.AnPasses, []int{8}},
		{needing(9), [][]int{{2, 1, 1}, {1, 0}, {0, 0, 1}}, api.AnFails, []int{8}},
		// All boxes of a question: its points, its minus, and nothing.
		{plain(1, 4, 1), [][]int{{2, 2, 2, 2}}, api.AnDepends, []int{0, 1}},
		{strict([]int{0, 0, -19}, -240), [][]int{{2, 2, 2, 2}, {0, 0}, {0, 0, 0}}, api.AnDepends, []int{-20, 0, 20}},
		{strict([]int{-240, 0, -20}, -240), [][]int{{2, 2, 2, 2}, {0, 2}, {2, 0, 0}}, api.AnPasses, []int{-20, -19, 0, 1, 20, 21}},
		{strict([]int{-240, 0, -240}, -240), [][]int{{2, 2, 2, 2}, {0, 2}, {2, 2, 0}}, api.AnPasses, []int{-25, -24, -20, -19, -5, -4, 0, 1, 15, 16, 20, 21}},
		// A part decides, or what is needed of all.
		{strict([]int{1, 0, 0}, -240), [][]int{{0, 0, 0, 0}, {0, 2}, {0, 0, 0}}, api.AnDepends, []int{0, 1}},
		{strict([]int{-240, 0, 0}, 1), [][]int{{0, 0, 0, 0}, {0, 2}, {0, 0, 0}}, api.AnDepends, []int{0, 1}},
		{strict([]int{-240, 0, 0}, 0), [][]int{{0, 0, 0, 0}, {0, 2}, {0, 0, 0}}, api.AnPasses, []int{0, 1}},
		{strict([]int{-240, 0, 1}, 0), [][]int{{0, 0, 0, 0}, {0, 2}, {0, 0, 0}}, api.AnFails, []int{0, 1}},
		{plain(8, 2, 1), most, api.AnPasses, []int{1, 2, 3, 4, 5, 6, 7, 8}},
		{plain(8, 2, 8), most, api.AnDepends, []int{1, 2, 3, 4, 5, 6, 7, 8}},
		{plain(8, 2, 9), most, api.AnFails, []int{1, 2, 3, 4, 5, 6, 7, 8}},
	} {
		if outcome, e := answer.Outcome(c.k, c.sheet); outcome != c.outcome || e != api.OK {
			t.Errorf("%d: Outcome = %d, %d, not %d", i, outcome, e, c.outcome)
		}
		if scores, e := answer.Scores(c.k, c.sheet); !slices.Equal(scores, c.scores) || e != api.OK {
			t.Errorf("%d: Scores = %v, %d, not %v", i, scores, e, c.scores)
		}
	}
}

// TestMissed checks P7.6.
func TestMissed(t *testing.T) {
	s, other := exampleSheet(), [][]int{{1, 0, 0}, {0, 1}, {0, 0, 1}}
	bad := [][]int{{0, 1, 2}, {1, 3}, {2, 0, 1}}
	short := [][]int{{0, 1, 2}, {1, 0}}
	for i, c := range []struct {
		sheets [][][]int
		want   []api.Span
		e      api.Errno
	}{
		{[][][]int{s, other}, []api.Span{{Lo: 1, Hi: 2}, {Lo: 1, Hi: 1}, {Lo: 0, Hi: 1}}, api.OK},
		{[][][]int{s}, []api.Span{{Lo: 0, Hi: 1}, {}, {Lo: 0, Hi: 1}}, api.OK},
		{[][][]int{other}, []api.Span{{Lo: 1, Hi: 1}, {Lo: 1, Hi: 1}, {}}, api.OK},
		{nil, make([]api.Span, 3), api.OK},
		{[][][]int{}, make([]api.Span, 3), api.OK},
		// No answer is a miss, and so are two.
		{[][][]int{{{0, 0, 0}, {1, 1}, {0, 0, 0}}}, slices.Repeat([]api.Span{{Lo: 1, Hi: 1}}, 3), api.OK},
		{[][][]int{{{0, 2, 0}, {2, 1}, {0, 2, 0}}}, []api.Span{{Lo: 0, Hi: 1}, {Lo: 1, Hi: 1}, {Lo: 1, Hi: 1}}, api.OK},
		{[][][]int{{{2, 2, 2}, {2, 2}, {0, 2, 2}}}, slices.Repeat([]api.Span{{Lo: 0, Hi: 1}}, 3), api.OK},
		{slices.Repeat([][][]int{s}, 20), []api.Span{{Lo: 0, Hi: 20}, {}, {Lo: 0, Hi: 20}}, api.OK},
		{slices.Repeat([][][]int{s}, 21), nil, api.ErrLong},
		{append(slices.Repeat([][][]int{s}, 20), bad), nil, api.ErrLong},
		{append(slices.Repeat([][][]int{s}, 19), bad), nil, api.ErrRange},
		// The first sheet with an error.
		{[][][]int{s, bad, short}, nil, api.ErrRange},
		{[][][]int{short, bad, s}, nil, api.ErrLong},
		{[][][]int{s, {{2, 2, 2}, {2, 2}, {2, 2, 2}}, bad}, nil, api.ErrLong},
		{[][][]int{nil}, nil, api.ErrLong},
	} {
		missed, e := answer.Missed(example(), c.sheets)
		if !slices.Equal(missed, c.want) || (missed == nil) != (c.want == nil) || e != c.e {
			t.Errorf("%d: Missed = %v, %d, not %v, %d", i, missed, e, c.want, c.e)
		}
	}
}

package answer_test

import (
	"math/rand"
	"slices"
	"testing"

	"bitepoint/answer"
	"bitepoint/api"
)

// TestDecideAndLook checks P7.4.
func TestDecideAndLook(t *testing.T) {
	at := func(question, box int) api.AnBox { return api.AnBox{Question: question, Box: box} }
	firsts := func(questions ...int) []api.AnBox {
		var boxes []api.AnBox
		for _, question := range questions {
			boxes = append(boxes, at(question, 0))
		}
		return boxes
	}
	seven := append(slices.Repeat([][]int{{2, 0}}, 7), []int{1, 0})
	crossedKey, crossedSheet := crossed()
	moved := cloneKey(crossedKey)
	slices.Reverse(moved.Questions)
	for i, c := range []struct {
		k        api.AnKey
		sheet    [][]int
		deciding []api.AnBox
		box      api.AnBox
		many     int
	}{
		{example(), exampleSheet(), []api.AnBox{at(0, 2), at(2, 0)}, at(0, 2), 2},
		{needing(8), exampleSheet(), []api.AnBox{at(2, 0)}, at(2, 0), 1},
		{needing(12), exampleSheet(), []api.AnBox{at(0, 2), at(2, 0)}, at(0, 2), 2},
		// Nothing decides, if the outcome does not depend.
		{needing(3), exampleSheet(), nil, api.AnBox{}, 0},
		{needing(13), exampleSheet(), nil, api.AnBox{}, 0},
		{needing(7), [][]int{{0, 1, 0}, {1, 0}, {0, 0, 1}}, nil, api.AnBox{}, 0},
		{needing(13), [][]int{{0, 1, 0}, {1, 0}, {0, 0, 1}}, nil, api.AnBox{}, 0},
		// A box that is unsure, but does not decide, as two others are marked.
		{needing(8), [][]int{{2, 1, 1}, {1, 0}, {2, 0, 1}}, []api.AnBox{at(2, 0)}, at(2, 0), 1},
		{plain(3, 2, 1), [][]int{{2, 0}, {2, 0}, {2, 0}}, firsts(0, 1, 2), at(0, 0), 3},
		{plain(3, 2, 2), [][]int{{2, 0}, {2, 0}, {2, 0}}, firsts(0, 1, 2), at(0, 0), 3},
		{plain(3, 2, 2), [][]int{{0, 0}, {2, 0}, {2, 0}}, firsts(1, 2), at(1, 0), 2},
		{plain(3, 2, 2), [][]int{{1, 0}, {2, 0}, {0, 2}}, []api.AnBox{at(1, 0)}, at(1, 0), 1},
		// Fewer looks are needed than there are boxes that decide. Of the two best boxes the first one is meant.
		{crossedKey, crossedSheet, firsts(0, 1, 2, 3), at(2, 0), 3},
		{moved, crossedSheet, firsts(0, 1, 2, 3), at(0, 0), 3},
		// What is left after a look at the question 2.
		{crossedKey, [][]int{{2, 0}, {2, 0}, {1, 0}, {2, 0}}, firsts(0, 3), at(0, 0), 2},
		{crossedKey, [][]int{{2, 0}, {2, 0}, {0, 0}, {2, 0}}, firsts(1, 3), at(1, 0), 2},
		// Each box of a question can take the answer away.
		{plain(1, 4, 1), [][]int{{2, 0, 0, 0}}, firsts(0), at(0, 0), 1},
		{plain(1, 4, 1), [][]int{{1, 2, 2, 2}}, []api.AnBox{at(0, 1), at(0, 2), at(0, 3)}, at(0, 1), 3},
		{plain(1, 4, 1), [][]int{{2, 2, 2, 2}}, []api.AnBox{at(0, 0), at(0, 1), at(0, 2), at(0, 3)}, at(0, 0), 4},
		{plain(1, 4, 1), [][]int{{0, 2, 2, 2}}, nil, api.AnBox{}, 0},
		{plain(8, 2, 8), seven, firsts(0, 1, 2, 3, 4, 5, 6), at(0, 0), 7},
		{plain(8, 2, 5), seven, firsts(0, 1, 2, 3, 4, 5, 6), at(0, 0), 7},
		{plain(8, 2, 9), seven, nil, api.AnBox{}, 0},
	} {
		deciding, e := answer.Decide(c.k, c.sheet)
		if !slices.Equal(deciding, c.deciding) || e != api.OK {
			t.Errorf("%d: Decide = %v, %d, not %v", i, deciding, e, c.deciding)
		}
		want := api.OK
		if c.many == 0 {
			want = api.ErrNone
		}
		if box, many, e := answer.Look(c.k, c.sheet); box != c.box || many != c.many || e != want {
			t.Errorf("%d: Look = %v, %d, %d, not %v, %d", i, box, many, e, c.box, c.many)
		}
	}
}

// looks is how many looks a sheet needs, as Look tells.
func looks(t *testing.T, k api.AnKey, sheet [][]int) int {
	t.Helper()
	_, many, e := answer.Look(k, sheet)
	if e != api.OK && (e != api.ErrNone || many != 0) {
		t.Fatalf("%v, %v: Look = %d, %d", k, sheet, many, e)
	}
	return many
}

// outcome is the outcome of a sheet, as Outcome tells.
func outcome(t *testing.T, k api.AnKey, sheet [][]int) int {
	t.Helper()
	outcome, e := answer.Outcome(k, sheet)
	if e != api.OK {
		t.Fatalf("%v, %v: Outcome = %d, %d", k, sheet, outcome, e)
	}
	return outcome
}

// deciding are the boxes that decide, as Decide tells.
func deciding(t *testing.T, k api.AnKey, sheet [][]int) []api.AnBox {
	t.Helper()
	boxes, e := answer.Decide(k, sheet)
	if e != api.OK {
		t.Fatalf("%v, %v: Decide = %v, %d", k, sheet, boxes, e)
	}
	return boxes
}

// others are the unsure boxes of a sheet but some.
func others(sheet [][]int, boxes ...api.AnBox) []api.AnBox {
	return slices.DeleteFunc(showing(sheet, api.AnUnsure), func(box api.AnBox) bool { return slices.Contains(boxes, box) })
}

// TestWhoDecides checks P7.8, with Outcome and Decide alone.
func TestWhoDecides(t *testing.T) {
	r := rand.New(rand.NewSource(78))
	depend, spare := 0, 0
	for range 1500 {
		k, sheet := randomPair(r, 1+r.Intn(7))
		depends := outcome(t, k, sheet) == api.AnDepends
		boxes := deciding(t, k, sheet)
		if depends != (len(boxes) > 0) {
			t.Fatalf("%v, %v: depends is %t, and %v decide", k, sheet, depends, boxes)
		}
		if depends {
			depend++
		}
		for _, turn := range turns(sheet, boxes) {
			if outcome(t, k, turn) == api.AnDepends {
				t.Fatalf("%v, %v: %v decide, but %v depends", k, sheet, boxes, turn)
			}
		}
		for _, box := range showing(sheet, api.AnUnsure) {
			can := slices.ContainsFunc(turns(sheet, others(sheet, box)), func(turn [][]int) bool { return outcome(t, k, turn) == api.AnDepends })
			if can != slices.Contains(boxes, box) {
				t.Fatalf("%v, %v: %v decide, and that all depends on %v is %t", k, sheet, boxes, box, can)
			}
			if depends && !can {
				spare++
			}
		}
	}
	if depend < 300 || spare < 100 {
		t.Errorf("only %d sheets depend, and %d boxes don't decide", depend, spare)
	}
}

// TestFewestLooks checks P7.9, with Look and Decide alone.
func TestFewestLooks(t *testing.T) {
	r := rand.New(rand.NewSource(79))
	later, fewer := 0, 0
	for range 1500 {
		k, sheet := randomPair(r, 1+r.Intn(7))
		best, many, e := answer.Look(k, sheet)
		if e != api.OK {
			continue
		}
		boxes := deciding(t, k, sheet)
		if many < 1 || many > len(boxes) || !slices.Contains(boxes, best) {
			t.Fatalf("%v, %v: Look = %v, %d, and %v decide", k, sheet, best, many, boxes)
		}
		if many < len(boxes) {
			fewer++
		}
		before := true
		for _, box := range showing(sheet, api.AnUnsure) {
			most := max(looks(t, k, with(sheet, box, api.AnEmpty)), looks(t, k, with(sheet, box, api.AnMarked)))
			switch {
			case box == best:
				before = false
				if most != many-1 {
					t.Fatalf("%v, %v: Look = %v, %d, and then up to %d are needed", k, sheet, best, many, most)
				}
			case most < many-1 || before && most < many:
				t.Fatalf("%v, %v: Look = %v, %d, but with %v no more than %d", k, sheet, best, many, box, most)
			case before && slices.Contains(boxes, box):
				later++
			}
		}
	}
	if later < 30 || fewer < 30 {
		t.Errorf("only %d boxes decide, but are not the best ones, and %d sheets need fewer looks than boxes decide", later, fewer)
	}
}

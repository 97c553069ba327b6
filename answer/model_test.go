package answer_test

import (
	"fmt"
	"math/rand"
	"slices"
	"testing"

	"bitepoint/answer"
	"bitepoint/api"
)

// randomKey is a key without an error, of which as much is needed as an answer
// more or less decides.
func randomKey(r *rand.Rand) api.AnKey {
	k := api.AnKey{Parts: make([]int, 1+r.Intn(4))}
	most := []int{2, 6, 21}[r.Intn(3)]
	for range 1 + r.Intn([]int{3, 6, 12}[r.Intn(3)]) {
		boxes := 2 + r.Intn(3)
		k.Questions = append(k.Questions, api.AnQuestion{Part: r.Intn(len(k.Parts)), Boxes: boxes, Right: r.Intn(boxes), Points: r.Intn(most), Minus: r.Intn(most)})
	}
	need(r, &k)
	return k
}

// need changes what is needed of a key, mostly to about what some sheet has.
func need(r *rand.Rand, k *api.AnKey) {
	points := pointsOf(*k, randomSheet(r, *k, 0))
	all := 0
	for part, n := range points {
		all += n
		k.Parts[part] = n - r.Intn(4) + r.Intn(2)
		if r.Intn(3) == 0 {
			k.Parts[part] = []int{-240, -20, 0, 20}[r.Intn(4)]
		}
	}
	k.All = all - r.Intn(4) + r.Intn(3)
	if r.Intn(4) == 0 {
		k.All = -240
	}
}

// randomSheet is a sheet without an error for a key, mostly with one mark for
// a question, and with at most so many unsure boxes.
func randomSheet(r *rand.Rand, k api.AnKey, unsure int) [][]int {
	sheet := make([][]int, len(k.Questions))
	for question, q := range k.Questions {
		sheet[question] = make([]int, q.Boxes)
		switch r.Intn(6) {
		case 0:
			for box := range q.Boxes {
				sheet[question][box] = r.Intn(2)
			}
		case 1:
			sheet[question][r.Intn(q.Boxes)] = api.AnMarked
		default:
			sheet[question][q.Right] = api.AnMarked
		}
	}
	for range unsure {
		question := r.Intn(len(sheet))
		sheet[question][r.Intn(len(sheet[question]))] = api.AnUnsure
	}
	return sheet
}

// crossed is a key with a sheet that needs fewer looks than there are boxes that
// decide. A learner passes with one of the questions 0 and 3, and one of 1 and
// 2, but not with 0 and 1 alone: if 2 is right, 1 decides nothing any more; if
// it is not, 0 does not. So it is with 3.
func crossed() (api.AnKey, [][]int) {
	q := func(part, points int) api.AnQuestion { return api.AnQuestion{Part: part, Boxes: 2, Points: points} }
	k := api.AnKey{Questions: []api.AnQuestion{q(0, 1), q(1, 1), q(1, 2), q(0, 2)}, Parts: []int{1, 1}, All: 3}
	return k, slices.Repeat([][]int{{2, 0}}, 4)
}

// crossing is a key with a sheet that is mostly like crossed, in any order, with
// some more questions, and with less or more needed.
func crossing(r *rand.Rand) (api.AnKey, [][]int) {
	k, sheet := crossed()
	times := 1 + r.Intn(6)
	for i := range k.Questions {
		k.Questions[i].Points *= times
		if r.Intn(5) == 0 {
			k.Questions[i].Minus = r.Intn(times)
			sheet[i][1] = r.Intn(3)
		}
	}
	for part := range k.Parts {
		k.Parts[part] = times - r.Intn(times)
	}
	k.All = 3*times - r.Intn(times)
	for range r.Intn(3) {
		part, points := r.Intn(2), r.Intn(times)
		k.Questions = append(k.Questions, api.AnQuestion{Part: part, Boxes: 3, Points: points})
		sheet = append(sheet, []int{1 + r.Intn(2), 0, 0})
		if sheet[len(sheet)-1][0] == api.AnMarked {
			k.Parts[part] += points
			k.All += points
		}
	}
	for range r.Intn(2) {
		sheet[r.Intn(len(sheet))][0] = r.Intn(3)
	}
	sheet = trimmed(sheet)
	r.Shuffle(len(sheet), func(i, j int) {
		k.Questions[i], k.Questions[j] = k.Questions[j], k.Questions[i]
		sheet[i], sheet[j] = sheet[j], sheet[i]
	})
	return k, sheet
}

// trimmed is a sheet with as many unsure boxes as there can be: the last ones
// are empty.
func trimmed(sheet [][]int) [][]int {
	boxes := showing(sheet, api.AnUnsure)
	for len(boxes) > 7 {
		last := boxes[len(boxes)-1]
		sheet = with(sheet, last, api.AnEmpty)
		boxes = boxes[:len(boxes)-1]
	}
	return sheet
}

// randomPair is a key with a sheet, with at most so many unsure boxes but for
// those that are like crossed.
func randomPair(r *rand.Rand, unsure int) (api.AnKey, [][]int) {
	if r.Intn(4) == 0 {
		return crossing(r)
	}
	k := randomKey(r)
	return k, randomSheet(r, k, unsure)
}

// cloneSheet is a copy of a sheet, without shared memory.
func cloneSheet(sheet [][]int) [][]int {
	sheet = slices.Clone(sheet)
	for question, list := range sheet {
		sheet[question] = slices.Clone(list)
	}
	return sheet
}

// with is a copy of a sheet on which a box shows something else.
func with(sheet [][]int, box api.AnBox, shows int) [][]int {
	sheet = cloneSheet(sheet)
	sheet[box.Question][box.Box] = shows
	return sheet
}

// showing are the boxes of a sheet that show something, in their order.
func showing(sheet [][]int, shows ...int) []api.AnBox {
	var boxes []api.AnBox
	for question, list := range sheet {
		for box, is := range list {
			if slices.Contains(shows, is) {
				boxes = append(boxes, api.AnBox{Question: question, Box: box})
			}
		}
	}
	return boxes
}

// turns are all sheets that a sheet becomes, if boxes are looked at.
func turns(sheet [][]int, boxes []api.AnBox) [][][]int {
	if len(boxes) == 0 {
		return [][][]int{sheet}
	}
	empty, marked := with(sheet, boxes[0], api.AnEmpty), with(sheet, boxes[0], api.AnMarked)
	return append(turns(empty, boxes[1:]), turns(marked, boxes[1:])...)
}

// readingsOf are all readings of a sheet.
func readingsOf(sheet [][]int) [][][]int { return turns(sheet, showing(sheet, api.AnUnsure)) }

// answerOf is the box that is the answer to a question, or -1.
func answerOf(list []int) int {
	if marked := showing([][]int{list}, api.AnMarked); len(marked) == 1 {
		return marked[0].Box
	}
	return -1
}

// pointsOf are the points of each part of a reading.
func pointsOf(k api.AnKey, reading [][]int) []int {
	points := make([]int, len(k.Parts))
	for part := range k.Parts {
		for question, q := range k.Questions {
			if q.Part != part {
				continue
			}
			if given := answerOf(reading[question]); given == q.Right {
				points[part] += q.Points
			} else if given >= 0 {
				points[part] -= q.Minus
			}
		}
	}
	return points
}

// passesOf reports whether a reading passes, and its sum.
func passesOf(k api.AnKey, reading [][]int) (bool, int) {
	passes, all := true, 0
	for part, points := range pointsOf(k, reading) {
		all += points
		passes = passes && points >= k.Parts[part]
	}
	return passes && all >= k.All, all
}

// outcomeOf is the outcome of a sheet, and the sums of its readings.
func outcomeOf(k api.AnKey, sheet [][]int) (int, []int) {
	passed, failed := 0, 0
	var scores []int
	for _, reading := range readingsOf(sheet) {
		passes, all := passesOf(k, reading)
		if passes {
			passed++
		} else {
			failed++
		}
		if !slices.Contains(scores, all) {
			scores = append(scores, all)
		}
	}
	slices.Sort(scores)
	switch {
	case failed == 0:
		return api.AnPasses, scores
	case passed == 0:
		return api.AnFails, scores
	}
	return api.AnDepends, scores
}

// decidingOf are the boxes that decide, out of all pairs of readings.
func decidingOf(k api.AnKey, sheet [][]int) []api.AnBox {
	unsure := showing(sheet, api.AnUnsure)
	var passed, failed [][][]int
	for _, reading := range readingsOf(sheet) {
		if passes, _ := passesOf(k, reading); passes {
			passed = append(passed, reading)
		} else {
			failed = append(failed, reading)
		}
	}
	decides := map[api.AnBox]bool{}
	for _, one := range passed {
		for _, other := range failed {
			var differ []api.AnBox
			for _, box := range unsure {
				if one[box.Question][box.Box] != other[box.Question][box.Box] {
					differ = append(differ, box)
				}
			}
			if len(differ) == 1 {
				decides[differ[0]] = true
			}
		}
	}
	var boxes []api.AnBox
	for _, box := range unsure {
		if decides[box] {
			boxes = append(boxes, box)
		}
	}
	return boxes
}

// canDecide reports whether so many looks are enough for a sheet, and the first
// box with which they are.
func canDecide(k api.AnKey, sheet [][]int, looks int, known map[string]bool) (api.AnBox, bool) {
	if outcome, _ := outcomeOf(k, sheet); outcome != api.AnDepends {
		return api.AnBox{}, true
	}
	if looks == 0 {
		return api.AnBox{}, false
	}
	for _, box := range showing(sheet, api.AnUnsure) {
		enough := true
		for shows := range 2 {
			turn := with(sheet, box, shows)
			text := fmt.Sprint(looks, turn)
			is, there := known[text]
			if !there {
				_, is = canDecide(k, turn, looks-1, known)
				known[text] = is
			}
			enough = enough && is
		}
		if enough {
			return box, true
		}
	}
	return api.AnBox{}, false
}

// lookOf is the first box that is best to be looked at, and how many looks a
// sheet needs: more and more are tried.
func lookOf(k api.AnKey, sheet [][]int) (api.AnBox, int) {
	known := map[string]bool{}
	for looks := 0; ; looks++ {
		if box, is := canDecide(k, sheet, looks, known); is {
			return box, looks
		}
	}
}

// missedOf are the least and the greatest number of sheets on which each
// question is missed.
func missedOf(k api.AnKey, sheets [][][]int) []api.Span {
	missed := make([]api.Span, len(k.Questions))
	for question, q := range k.Questions {
		for _, sheet := range sheets {
			right, wrong := 0, 0
			for _, reading := range readingsOf(sheet) {
				if answerOf(reading[question]) == q.Right {
					right++
				} else {
					wrong++
				}
			}
			missed[question].Lo += min(1, max(0, 1-right))
			missed[question].Hi += min(1, wrong)
		}
	}
	return missed
}

// TestAnySheet checks P7.2, P7.3 and P7.4 against the document's words.
func TestAnySheet(t *testing.T) {
	r := rand.New(rand.NewSource(72))
	outcomes, needed := map[int]int{}, map[int]int{}
	for round := range 1500 {
		unsure := r.Intn(6)
		if round%50 == 0 {
			unsure = 7
		}
		k, sheet := randomPair(r, unsure)
		outcome, e := answer.Outcome(k, sheet)
		scores, f := answer.Scores(k, sheet)
		wantOutcome, wantScores := outcomeOf(k, sheet)
		if outcome != wantOutcome || e != api.OK || !slices.Equal(scores, wantScores) || f != api.OK {
			t.Fatalf("%v, %v: Outcome = %d, %d, Scores = %v, %d, not %d and %v", k, sheet, outcome, e, scores, f, wantOutcome, wantScores)
		}
		outcomes[outcome]++
		for _, reading := range readingsOf(sheet) {
			points, passes, e := answer.Mark(k, reading)
			if want, _ := passesOf(k, reading); !slices.Equal(points, pointsOf(k, reading)) || passes != want || e != api.OK {
				t.Fatalf("%v: Mark of %v = %v, %t, %d", k, reading, points, passes, e)
			}
		}
		if deciding, e := answer.Decide(k, sheet); !slices.Equal(deciding, decidingOf(k, sheet)) || e != api.OK {
			t.Fatalf("%v, %v: Decide = %v, %d, not %v", k, sheet, deciding, e, decidingOf(k, sheet))
		}
		wantBox, wantMany := lookOf(k, sheet)
		wantError := api.OK
		if wantMany == 0 {
			wantError = api.ErrNone
		}
		if box, many, e := answer.Look(k, sheet); box != wantBox || many != wantMany || e != wantError {
			t.Fatalf("%v, %v: Look = %v, %d, %d, not %v, %d", k, sheet, box, many, e, wantBox, wantMany)
		}
		needed[wantMany]++
	}
	for outcome := range 3 {
		if outcomes[outcome] < 200 {
			t.Errorf("only %d sheets have the outcome %d", outcomes[outcome], outcome)
		}
	}
	for looks, atLeast := range []int{500, 50, 50, 100, 20, 20, 3, 3} {
		if needed[looks] < atLeast {
			t.Errorf("only %d sheets need %d looks: %v", needed[looks], looks, needed)
		}
	}
}

// TestMissedOnAnySheets checks P7.6 against the document's words.
func TestMissedOnAnySheets(t *testing.T) {
	r := rand.New(rand.NewSource(76))
	wide := 0
	for range 500 {
		k := randomKey(r)
		sheets := make([][][]int, r.Intn(8))
		for i := range sheets {
			sheets[i] = randomSheet(r, k, r.Intn(6))
		}
		missed, e := answer.Missed(k, sheets)
		if !slices.Equal(missed, missedOf(k, sheets)) || e != api.OK {
			t.Fatalf("%v, %v: Missed = %v, %d, not %v", k, sheets, missed, e, missedOf(k, sheets))
		}
		for _, span := range missed {
			if span.Lo > 0 && span.Hi > span.Lo {
				wide++
			}
		}
	}
	if wide < 100 {
		t.Errorf("only %d questions may be missed on more sheets than they are", wide)
	}
}

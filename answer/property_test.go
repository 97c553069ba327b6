package answer_test

import (
	"math/rand"
	"slices"
	"testing"

	"bitepoint/answer"
	"bitepoint/api"
)

// TestEveryWay checks P7.7: what Mark says of any reading, if the outcome does
// not depend; its sum is one of Scores.
func TestEveryWay(t *testing.T) {
	r := rand.New(rand.NewSource(77))
	seen := map[int]int{}
	for range 1500 {
		k, sheet := randomPair(r, r.Intn(8))
		is := outcome(t, k, sheet)
		scores, e := answer.Scores(k, sheet)
		if e != api.OK {
			t.Fatalf("%v, %v: Scores = %v, %d", k, sheet, scores, e)
		}
		var sums []int
		ways := map[bool]int{}
		for _, reading := range readingsOf(sheet) {
			points, passes, e := answer.Mark(k, reading)
			sum := 0
			for _, n := range points {
				sum += n
			}
			if e != api.OK || is == api.AnPasses && !passes || is == api.AnFails && passes || !slices.Contains(scores, sum) {
				t.Fatalf("%v, %v: Outcome = %d, Scores = %v, but Mark of %v = %v, %t, %d", k, sheet, is, scores, reading, points, passes, e)
			}
			sums = append(sums, sum)
			ways[passes]++
		}
		if is == api.AnDepends && len(ways) < 2 {
			t.Fatalf("%v, %v: depends, but of all readings %v pass", k, sheet, ways)
		}
		for i, score := range scores {
			if !slices.Contains(sums, score) || i > 0 && score <= scores[i-1] {
				t.Fatalf("%v, %v: Scores = %v, not %v", k, sheet, scores, sums)
			}
		}
		seen[is]++
	}
	for is := range 3 {
		if seen[is] < 200 {
			t.Errorf("only %d sheets have the outcome %d", seen[is], is)
		}
	}
}

// TestAnyOrder checks P7.11, and that the boxes that decide stay the same.
func TestAnyOrder(t *testing.T) {
	r := rand.New(rand.NewSource(711))
	for range 1500 {
		k, sheet := randomPair(r, r.Intn(8))
		other, moved := cloneKey(k), make([][]int, len(sheet))
		order := r.Perm(len(sheet))
		for to, from := range order {
			other.Questions[to], moved[to] = k.Questions[from], sheet[from]
		}
		if a, b := outcome(t, k, sheet), outcome(t, other, moved); a != b {
			t.Fatalf("%v, %v: Outcome = %d, and in the order %v %d", k, sheet, a, order, b)
		}
		a, e := answer.Scores(k, sheet)
		b, f := answer.Scores(other, moved)
		if e != api.OK || f != api.OK || !slices.Equal(a, b) {
			t.Fatalf("%v, %v: Scores = %v, %d, and in the order %v %v, %d", k, sheet, a, e, order, b, f)
		}
		if a, b := looks(t, k, sheet), looks(t, other, moved); a != b {
			t.Fatalf("%v, %v: %d looks are needed, and in the order %v %d", k, sheet, a, order, b)
		}
		boxes := deciding(t, k, sheet)
		for _, box := range deciding(t, other, moved) {
			box.Question = order[box.Question]
			if !slices.Contains(boxes, box) {
				t.Fatalf("%v, %v: %v decide, and in the order %v %v, too", k, sheet, boxes, order, box)
			}
		}
	}
}

// TestMoreIsNeeded checks P7.12: with more points needed no sheet that failed
// passes; with a further unsure box an outcome stays, or depends.
func TestMoreIsNeeded(t *testing.T) {
	r := rand.New(rand.NewSource(712))
	changed, depend := 0, 0
	for range 3000 {
		k := randomKey(r)
		sheet := randomSheet(r, k, r.Intn(7))
		before := outcome(t, k, sheet)
		more := cloneKey(k)
		more.All += r.Intn(4)
		more.Parts[r.Intn(len(k.Parts))] += r.Intn(4)
		if _, _, e := answer.Check(more); e == api.OK {
			after := outcome(t, more, sheet)
			if before == api.AnFails && after != api.AnFails || before == api.AnDepends && after == api.AnPasses {
				t.Fatalf("%v, %v: Outcome = %d, and with %v needed, and %d of all, %d", k, sheet, before, more.Parts, more.All, after)
			}
			if before != after {
				changed++
			}
		}
		sure := showing(sheet, api.AnEmpty, api.AnMarked)
		if len(sure) == 0 {
			continue
		}
		after := outcome(t, k, with(sheet, sure[r.Intn(len(sure))], api.AnUnsure))
		if after != before && after != api.AnDepends {
			t.Fatalf("%v, %v: Outcome = %d, and with a further unsure box %d", k, sheet, before, after)
		}
		if after != before {
			depend++
		}
	}
	if changed < 300 || depend < 100 {
		t.Errorf("only %d outcomes change with more needed, and %d depend with a further unsure box", changed, depend)
	}
}

// TestMissedOnReadings checks P7.13: any readings of sheets have each question
// missed on as many as Missed says, and both ends are reached.
func TestMissedOnReadings(t *testing.T) {
	r := rand.New(rand.NewSource(713))
	for range 500 {
		k := randomKey(r)
		sheets, readings := make([][][]int, 1+r.Intn(3)), [][][][]int{nil}
		for i := range sheets {
			sheets[i] = randomSheet(r, k, r.Intn(3))
			var longer [][][][]int
			for _, before := range readings {
				for _, reading := range readingsOf(sheets[i]) {
					longer = append(longer, append(slices.Clone(before), reading))
				}
			}
			readings = longer
		}
		missed, e := answer.Missed(k, sheets)
		if e != api.OK || len(missed) != len(k.Questions) {
			t.Fatalf("%v, %v: Missed = %v, %d", k, sheets, missed, e)
		}
		for question, span := range missed {
			least, greatest := len(sheets)+1, -1
			for _, reading := range readings {
				many := 0
				for _, sheet := range reading {
					if answerOf(sheet[question]) != k.Questions[question].Right {
						many++
					}
				}
				least, greatest = min(least, many), max(greatest, many)
			}
			if span != (api.Span{Lo: least, Hi: greatest}) {
				t.Fatalf("%v, %v: the question %d is missed on %v, not %d to %d", k, sheets, question, span, least, greatest)
			}
		}
	}
}

package sheet_test

import (
	"math/rand"
	"slices"
	"strconv"
	"testing"

	"bitepoint/api"
	"bitepoint/sheet"
)

// size is how great the parts of random codes and tests can be.
type size struct{ faults, manoeuvres, points, limit, lines int }

// small are codes and tests of which all tests can be tried; great ones are of
// any size.
var (
	small = size{2, 1, 3, 3, 5}
	great = size{6, 3, 20, 12, 12}
)

// randomCode is a valid code. The points that it allows are about those of a
// test.
func randomCode(r *rand.Rand, z size) api.ShCode {
	var c api.ShCode
	for n := range 1 + r.Intn(z.faults) {
		c.Faults = append(c.Faults, fault("f"+strconv.Itoa(n), r.Intn(z.points+1), r.Intn(z.limit+1)))
		if r.Intn(3) == 0 {
			c.Faults[n].Points = r.Intn(3)
		}
	}
	for n := range r.Intn(z.manoeuvres + 1) {
		c.Manoeuvres = append(c.Manoeuvres, "m"+strconv.Itoa(n))
	}
	c.All = r.Intn(min(240, z.points*z.lines) + 1)
	if r.Intn(3) == 0 {
		c.All = 240
	}
	return c
}

// randomTest is a whole test, mostly with all manoeuvres and few kinds of
// faults.
func randomTest(r *rand.Rand, c api.ShCode, z size) []int {
	test := make([]int, 1+r.Intn(z.lines))
	things := len(c.Faults) + len(c.Manoeuvres)
	kinds := 1 + r.Intn(things)
	for at := range test {
		test[at] = (at*at + r.Intn(kinds)) % things
	}
	if r.Intn(4) > 0 {
		for n := range c.Manoeuvres {
			test[r.Intn(len(test))] = len(c.Faults) + n
		}
	}
	return test
}

// randomLost are some lines of a test, ascending, as many as can be lost.
func randomLost(r *rand.Rand, test []int) []int {
	lost := r.Perm(len(test))[:min(len(test), r.Intn(4))]
	for at := range lost {
		lost[at]++
	}
	slices.Sort(lost)
	return lost
}

// modelJudge is the points of a test, and whether it is passed, by the words of
// the document.
func modelJudge(c api.ShCode, test []int) (points int, passed bool) {
	passed = true
	for n, f := range c.Faults {
		lines := 0
		for _, what := range test {
			if what == n {
				lines++
				points += f.Points
			}
		}
		passed = passed && lines <= f.Limit
	}
	for n := range c.Manoeuvres {
		passed = passed && slices.Contains(test, len(c.Faults)+n)
	}
	return points, passed && points <= c.All
}

// modelFits reports whether a test fits a sheet, by the words of the document.
func modelFits(c api.ShCode, s api.ShSheet, test []int) bool {
	if len(test) != s.Lines {
		return false
	}
	for _, kept := range s.Kept {
		sum, _ := modelJudge(c, test[:kept.No])
		if test[kept.No-1] != kept.What || sum != kept.Sum {
			return false
		}
	}
	return true
}

// allTests are all whole tests with so many lines, in their order.
func allTests(things, lines int) [][]int {
	tests := [][]int{nil}
	for range lines {
		var longer [][]int
		for _, test := range tests {
			for what := range things {
				longer = append(longer, append(slices.Clone(test), what))
			}
		}
		tests = longer
	}
	return tests
}

// modelFitting are all whole tests that fit a sheet.
func modelFitting(c api.ShCode, s api.ShSheet) [][]int {
	return slices.DeleteFunc(allTests(len(c.Faults)+len(c.Manoeuvres), s.Lines), func(test []int) bool { return !modelFits(c, s, test) })
}

// modelLists are all lists of some lines, those that are meant first ahead.
func modelLists(lines []int) [][]int {
	var all [][]int
	for set := range 1 << len(lines) {
		var list []int
		for at, no := range lines {
			if set>>at&1 == 1 {
				list = append(list, no)
			}
		}
		all = append(all, list)
	}
	slices.SortFunc(all, func(a, b []int) int {
		if len(a) != len(b) {
			return len(a) - len(b)
		}
		return slices.Compare(a, b)
	})
	return all
}

// modelLost are the lines of a sheet that are lost.
func modelLost(s api.ShSheet) []int {
	var lost []int
	for no := 1; no <= s.Lines; no++ {
		if !slices.ContainsFunc(s.Kept, func(kept api.ShLine) bool { return kept.No == no }) {
			lost = append(lost, no)
		}
	}
	return lost
}

// modelEnough reports whether any two tests with the same on some lines are
// both passed, or both not.
func modelEnough(c api.ShCode, fitting [][]int, lines []int) bool {
	for _, a := range fitting {
		for _, b := range fitting {
			_, passedA := modelJudge(c, a)
			_, passedB := modelJudge(c, b)
			differ := slices.ContainsFunc(lines, func(no int) bool { return a[no-1] != b[no-1] })
			if !differ && passedA != passedB {
				return false
			}
		}
	}
	return true
}

// struckFrom is what is left of a test.
func struckFrom(test, lines []int) []int {
	var left []int
	for at, what := range test {
		if !slices.Contains(lines, at+1) {
			left = append(left, what)
		}
	}
	return left
}

// faultLines are the lines of a test that are faults.
func faultLines(c api.ShCode, test []int) []int {
	var lines []int
	for at, what := range test {
		if what < len(c.Faults) {
			lines = append(lines, at+1)
		}
	}
	return lines
}

// randomSheet is a sheet without an error: what is left of a test, and
// sometimes with other sums, or with something else on a line.
func randomSheet(r *rand.Rand, c api.ShCode, z size) api.ShSheet {
	test := randomTest(r, c, z)
	lost := randomLost(r, test)
	s := api.ShSheet{Lines: len(test)}
	for at, what := range test {
		if !slices.Contains(lost, at+1) {
			sum, _ := modelJudge(c, test[:at+1])
			s.Kept = append(s.Kept, line(at+1, what, sum))
		}
	}
	if len(s.Kept) > 0 && r.Intn(4) == 0 {
		at := r.Intn(len(s.Kept))
		s.Kept[at].Sum = min(240, s.Kept[at].Sum+r.Intn(3))
		s.Kept[r.Intn(len(s.Kept))].What = r.Intn(len(c.Faults) + len(c.Manoeuvres))
	}
	return s
}

// TestSheetsAgainstAllTests checks P10.4, P10.5 and P10.6 against all tests
// that there are with so many lines.
func TestSheetsAgainstAllTests(t *testing.T) {
	r := rand.New(rand.NewSource(104))
	outcomes, many := map[int]int{}, map[int]int{}
	for range 6000 {
		c := randomCode(r, small)
		s := randomSheet(r, c, small)
		fitting := modelFitting(c, s)
		fits, e := sheet.Fits(c, s)
		if fits != len(fitting) || e != api.OK {
			t.Fatalf("%v: Fits of %v = %d, %d, not %d", c, s, fits, e, len(fitting))
		}
		outcome, e := sheet.Outcome(c, s)
		if len(fitting) == 0 {
			if outcome != 0 || e != api.ErrDown {
				t.Fatalf("%v: Outcome of %v = %d, %d", c, s, outcome, e)
			}
			outcomes[-1]++
			continue
		}
		passed := checkShown(t, c, s, fitting)
		want := api.AnDepends
		switch passed {
		case 0:
			want = api.AnFails
		case len(fitting):
			want = api.AnPasses
		}
		if outcome != want || e != api.OK {
			t.Fatalf("%v: Outcome of %v = %d, %d, not %d", c, s, outcome, e, want)
		}
		outcomes[outcome]++
		many[checkEnough(t, c, s, fitting)]++
	}
	for _, outcome := range []int{-1, api.AnPasses, api.AnFails, api.AnDepends} {
		if outcomes[outcome] < 300 {
			t.Errorf("only %d sheets have the outcome %d", outcomes[outcome], outcome)
		}
	}
	for lines := range 4 {
		if many[lines] < 50 {
			t.Errorf("only %d sheets need %d lines", many[lines], lines)
		}
	}
}

// checkShown checks Show, and returns how many of the tests that fit are
// passed.
func checkShown(t *testing.T, c api.ShCode, s api.ShSheet, fitting [][]int) int {
	t.Helper()
	many := 0
	first := map[bool][]int{}
	for _, test := range fitting {
		_, passed := modelJudge(c, test)
		if passed {
			many++
		}
		if first[passed] == nil {
			first[passed] = test
		}
	}
	for _, passed := range []bool{true, false} {
		want := api.OK
		if first[passed] == nil {
			want = api.ErrNone
		}
		if test, e := sheet.Show(c, s, passed); !slices.Equal(test, first[passed]) || e != want {
			t.Fatalf("%v: Show of %v, %t = %v, %d, not %v, %d", c, s, passed, test, e, first[passed], want)
		}
	}
	return many
}

// checkEnough checks Enough for all lists of lost lines, and Fewest, and
// returns how many lines are the fewest.
func checkEnough(t *testing.T, c api.ShCode, s api.ShSheet, fitting [][]int) int {
	t.Helper()
	var fewest []int
	found := false
	for _, lines := range modelLists(modelLost(s)) {
		want := modelEnough(c, fitting, lines)
		if is, e := sheet.Enough(c, s, lines); is != want || e != api.OK {
			t.Fatalf("%v: Enough of %v: %v = %t, %d, not %t", c, s, lines, is, e, want)
		}
		if want && !found {
			fewest, found = lines, true
		}
	}
	if lines, e := sheet.Fewest(c, s); !slices.Equal(lines, fewest) || e != api.OK {
		t.Fatalf("%v: Fewest of %v = %v, %d, not %v", c, s, lines, e, fewest)
	}
	return len(fewest)
}

// TestTestsAgainstTheModel checks P10.2, P10.3 and P10.7 against the words of
// the document.
func TestTestsAgainstTheModel(t *testing.T) {
	r := rand.New(rand.NewSource(107))
	many := map[int]int{}
	for range 4000 {
		z := []size{small, great}[r.Intn(2)]
		c := randomCode(r, z)
		test := randomTest(r, c, z)
		points, passed := modelJudge(c, test)
		if is, passes, e := sheet.Judge(c, test); is != points || passes != passed || e != api.OK {
			t.Fatalf("%v: Judge of %v = %d, %t, %d, not %d, %t", c, test, is, passes, e, points, passed)
		}
		lost := randomLost(r, test)
		if s, e := sheet.Keep(c, test, lost); e != api.OK || !modelFits(c, s, test) || !slices.Equal(modelLost(s), lost) {
			t.Fatalf("%v: Keep of %v without %v = %v, %d", c, test, lost, s, e)
		}
		many[checkAppeal(t, c, test)]++
	}
	for lines, least := range map[int]int{-1: 100, 0: 100, 1: 100, 2: 100, 3: 100, 4: 50, 5: 50, 6: 20} {
		if many[lines] < least {
			t.Errorf("only %d tests need %d lines to be struck", many[lines], lines)
		}
	}
}

// checkAppeal checks Appeal, and returns how many lines it says, or -1 for
// none.
func checkAppeal(t *testing.T, c api.ShCode, test []int) int {
	t.Helper()
	lines, e := sheet.Appeal(c, test)
	for _, list := range modelLists(faultLines(c, test)) {
		if _, passed := modelJudge(c, struckFrom(test, list)); passed {
			if !slices.Equal(lines, list) || e != api.OK {
				t.Fatalf("%v: Appeal of %v = %v, %d, not %v", c, test, lines, e, list)
			}
			return len(list)
		}
	}
	if lines != nil || e != api.ErrDown {
		t.Fatalf("%v: Appeal of %v = %v, %d", c, test, lines, e)
	}
	return -1
}

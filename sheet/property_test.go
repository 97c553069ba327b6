package sheet_test

import (
	"math/rand"
	"slices"
	"testing"

	"bitepoint/api"
	"bitepoint/sheet"
)

// judged is whether a test is passed, as Judge says.
func judged(t *testing.T, c api.ShCode, test []int) bool {
	t.Helper()
	_, passed, e := sheet.Judge(c, test)
	if e != api.OK {
		t.Fatalf("%v: Judge of %v = %d", c, test, e)
	}
	return passed
}

// kept is what Keep returns.
func kept(t *testing.T, c api.ShCode, test, lost []int) api.ShSheet {
	t.Helper()
	s, e := sheet.Keep(c, test, lost)
	if e != api.OK {
		t.Fatalf("%v: Keep of %v without %v = %v, %d", c, test, lost, s, e)
	}
	return s
}

// fits is how many tests fit a sheet, as Fits says.
func fits(t *testing.T, c api.ShCode, s api.ShSheet) int {
	t.Helper()
	many, e := sheet.Fits(c, s)
	if e != api.OK {
		t.Fatalf("%v: Fits of %v = %d, %d", c, s, many, e)
	}
	return many
}

// outcome is what Outcome returns.
func outcome(t *testing.T, c api.ShCode, s api.ShSheet) int {
	t.Helper()
	is, e := sheet.Outcome(c, s)
	if e != api.OK {
		t.Fatalf("%v: Outcome of %v = %d, %d", c, s, is, e)
	}
	return is
}

// shown is what Show returns, and whether there is such a test. The test has
// to fit: just it is left, if it loses the same lines.
func shown(t *testing.T, c api.ShCode, s api.ShSheet, passed bool) ([]int, bool) {
	t.Helper()
	test, e := sheet.Show(c, s, passed)
	if e == api.ErrNone {
		return nil, false
	}
	if e != api.OK || judged(t, c, test) != passed || !same(kept(t, c, test, modelLost(s)), s) {
		t.Fatalf("%v: Show of %v, %t = %v, %d", c, s, passed, test, e)
	}
	return test, true
}

// enough is what Enough returns.
func enough(t *testing.T, c api.ShCode, s api.ShSheet, lines []int) bool {
	t.Helper()
	is, e := sheet.Enough(c, s, lines)
	if e != api.OK {
		t.Fatalf("%v: Enough of %v: %v = %t, %d", c, s, lines, is, e)
	}
	return is
}

// fewest is what Fewest returns.
func fewest(t *testing.T, c api.ShCode, s api.ShSheet) []int {
	t.Helper()
	lines, e := sheet.Fewest(c, s)
	if e != api.OK {
		t.Fatalf("%v: Fewest of %v = %v, %d", c, s, lines, e)
	}
	return lines
}

// randomCase is a code of any size, a test, and lines of it that are lost.
// The outcome depends more often if the points are about those of the test.
func randomCase(r *rand.Rand) (c api.ShCode, test, lost []int) {
	z := []size{small, {4, 2, 4, 4, 12}, great}[r.Intn(3)]
	c = randomCode(r, z)
	test = randomTest(r, c, z)
	if points, _ := modelJudge(c, test); r.Intn(2) == 0 {
		c.All = min(240, points+r.Intn(6))
		for n := range c.Faults {
			c.Faults[n].Limit = 12 - r.Intn(3)*r.Intn(6)
		}
	}
	return c, test, randomLost(r, test)
}

// enoughOf fails if some kind of cases came too seldom.
func enoughOf[K comparable](t *testing.T, many map[K]int, least int, kinds ...K) {
	t.Helper()
	for _, kind := range kinds {
		if many[kind] < least {
			t.Errorf("only %d cases of the kind %v", many[kind], kind)
		}
	}
}

// TestLostLines checks P10.9.
func TestLostLines(t *testing.T) {
	r := rand.New(rand.NewSource(109))
	many := map[int]int{}
	for range 2000 {
		c, test, lost := randomCase(r)
		s := kept(t, c, test, lost)
		is, passed := outcome(t, c, s), judged(t, c, test)
		if is == api.AnPasses && !passed || is == api.AnFails && passed {
			t.Fatalf("%v: the outcome of %v is %d, but %v is passed: %t", c, s, is, test, passed)
		}
		if _, found := shown(t, c, s, passed); !found || fits(t, c, s) < 1 {
			t.Fatalf("%v: %v does not fit %v", c, test, s)
		}
		whole := kept(t, c, test, nil)
		if only, found := shown(t, c, whole, passed); !found || fits(t, c, whole) != 1 || !slices.Equal(only, test) {
			t.Fatalf("%v: of %v nothing is lost, and %v fits", c, test, only)
		}
		many[is]++
	}
	enoughOf(t, many, 200, api.AnPasses, api.AnFails, api.AnDepends)
}

// TestShown checks P10.10.
func TestShown(t *testing.T) {
	r := rand.New(rand.NewSource(1010))
	many := map[int]int{}
	for range 2000 {
		c, test, lost := randomCase(r)
		s := kept(t, c, test, lost)
		_, some := shown(t, c, s, true)
		_, others := shown(t, c, s, false)
		is := outcome(t, c, s)
		if some != (is != api.AnFails) || others != (is != api.AnPasses) {
			t.Fatalf("%v: the outcome of %v is %d, but Show finds %t, %t", c, s, is, some, others)
		}
		many[is]++
	}
	enoughOf(t, many, 200, api.AnPasses, api.AnFails, api.AnDepends)
}

// contains reports whether a list has all lines of another one.
func contains(lines, part []int) bool {
	return !slices.ContainsFunc(part, func(no int) bool { return !slices.Contains(lines, no) })
}

// TestLinesThatDecide checks P10.11.
func TestLinesThatDecide(t *testing.T) {
	r := rand.New(rand.NewSource(1011))
	many := map[int]int{}
	for range 1500 {
		c, test, lost := randomCase(r)
		s := kept(t, c, test, lost)
		lines := fewest(t, c, s)
		if !enough(t, c, s, lines) || !enough(t, c, s, lost) {
			t.Fatalf("%v: for %v the lines %v or %v are not enough", c, s, lines, lost)
		}
		if (len(lines) == 0) != (outcome(t, c, s) != api.AnDepends) {
			t.Fatalf("%v: the outcome of %v is %d, but the fewest lines are %v", c, s, outcome(t, c, s), lines)
		}
		var before [][]int
		for _, list := range modelLists(lost) {
			is := enough(t, c, s, list)
			if is && (len(list) < len(lines) || len(list) == len(lines) && slices.Compare(list, lines) < 0) {
				t.Fatalf("%v: for %v %v are enough, but Fewest says %v", c, s, list, lines)
			}
			if !is && slices.ContainsFunc(before, func(part []int) bool { return contains(list, part) }) {
				t.Fatalf("%v: for %v %v are not enough, but less is", c, s, list)
			}
			if is {
				before = append(before, list)
			}
		}
		many[len(lines)]++
	}
	enoughOf(t, many, 40, 0, 1, 2, 3)
}

// TestMoreIsLost checks P10.12.
func TestMoreIsLost(t *testing.T) {
	r := rand.New(rand.NewSource(1012))
	many := map[[2]int]int{}
	for range 3000 {
		c, test, lost := randomCase(r)
		further := 1 + r.Intn(len(test))
		if len(lost) == 3 || slices.Contains(lost, further) {
			continue
		}
		more := append(slices.Clone(lost), further)
		slices.Sort(more)
		s, less := kept(t, c, test, lost), kept(t, c, test, more)
		for _, passed := range []bool{true, false} {
			if one, found := shown(t, c, s, passed); found && !same(kept(t, c, one, more), less) {
				t.Fatalf("%v: %v fits %v, but not %v", c, one, s, less)
			}
		}
		if fits(t, c, less) < fits(t, c, s) {
			t.Fatalf("%v: fewer tests fit %v than %v", c, less, s)
		}
		before, now := outcome(t, c, s), outcome(t, c, less)
		if now != before && now != api.AnDepends {
			t.Fatalf("%v: the outcome of %v is %d, and of %v %d", c, s, before, less, now)
		}
		many[[2]int{before, now}]++
	}
	const passes, fails, depends = api.AnPasses, api.AnFails, api.AnDepends
	enoughOf(t, many, 50, [2]int{passes, passes}, [2]int{passes, depends}, [2]int{fails, fails}, [2]int{fails, depends}, [2]int{depends, depends})
}

// milder is a code with greater limits, and a greater All.
func milder(r *rand.Rand, c api.ShCode) api.ShCode {
	c.Faults = slices.Clone(c.Faults)
	for n := range c.Faults {
		c.Faults[n].Limit += r.Intn(13 - c.Faults[n].Limit)
	}
	c.All += r.Intn(241 - c.All)
	return c
}

// TestMilder checks P10.13.
func TestMilder(t *testing.T) {
	r := rand.New(rand.NewSource(1013))
	many := map[[2]bool]int{}
	struck := 0
	for range 4000 {
		c, test, _ := randomCase(r)
		before, now := judged(t, c, test), judged(t, milder(r, c), test)
		if before && !now {
			t.Fatalf("%v: %v is passed, but not with a milder code", c, test)
		}
		many[[2]bool{before, now}]++
		faults := faultLines(c, test)
		if !before || len(faults) == 0 || len(test) == 1 {
			continue
		}
		no := faults[r.Intn(len(faults))]
		if !judged(t, c, struckFrom(test, []int{no})) {
			t.Fatalf("%v: %v is passed, but not if %d is struck", c, test, no)
		}
		struck++
	}
	enoughOf(t, many, 200, [2]bool{true, true}, [2]bool{false, true}, [2]bool{false, false})
	if struck < 500 {
		t.Errorf("only %d faults were struck", struck)
	}
}

// TestAppeals checks P10.14.
func TestAppeals(t *testing.T) {
	r := rand.New(rand.NewSource(1014))
	many := map[int]int{}
	for range 3000 {
		c, test, _ := randomCase(r)
		lines, e := sheet.Appeal(c, test)
		least := len(lines)
		switch {
		case e == api.ErrDown:
			// Then no list may be enough.
			least = len(test)
		case e != api.OK:
			t.Fatalf("%v: Appeal of %v = %v, %d", c, test, lines, e)
		case len(lines) < len(test) && !judged(t, c, struckFrom(test, lines)):
			t.Fatalf("%v: Appeal of %v = %v, and it is not passed", c, test, lines)
		case judged(t, c, test) != (least == 0):
			t.Fatalf("%v: Appeal of %v = %v", c, test, lines)
		case !contains(faultLines(c, test), lines):
			t.Fatalf("%v: Appeal of %v = %v, not all faults", c, test, lines)
		}
		for _, list := range modelLists(faultLines(c, test)) {
			if len(list) < least && judged(t, c, struckFrom(test, list)) {
				t.Fatalf("%v: Appeal of %v = %v, but %v are enough", c, test, lines, list)
			}
		}
		if e == api.ErrDown {
			least = -1
		}
		many[least]++
	}
	enoughOf(t, many, 50, -1, 0, 1, 2, 3, 4)
}

// TestTexts checks P10.15.
func TestTexts(t *testing.T) {
	r := rand.New(rand.NewSource(1015))
	again, refused, lost := 0, 0, map[int]int{}
	for range 10000 {
		z := []size{small, great}[r.Intn(2)]
		c := randomCode(r, z)
		s := randomSheet(r, c, z)
		text, e := sheet.Write(c, s)
		if e != api.OK {
			t.Fatalf("%v: Write of %v = %q, %d", c, s, text, e)
		}
		if is, e := sheet.Read(c, text); !same(is, s) || e != api.OK {
			t.Fatalf("%v: Read of %q = %v, %d, not %v", c, text, is, e, s)
		}
		lost[s.Lines-len(s.Kept)]++
		for range 5 {
			text = mutated(r, text)
			switch is, e := sheet.Read(c, text); e {
			case api.OK:
				if same, e := sheet.Write(c, is); same != text || e != api.OK {
					t.Fatalf("%v: Read of %q = %v, but Write of it = %q, %d", c, text, is, same, e)
				}
				again++
			case api.ErrForm:
				refused++
			default:
				t.Fatalf("%v: Read of %q = %v, %d", c, text, is, e)
			}
		}
	}
	enoughOf(t, lost, 500, 0, 1, 2, 3)
	if again < 1000 || refused < 1000 {
		t.Errorf("%d texts were read, %d were not", again, refused)
	}
}

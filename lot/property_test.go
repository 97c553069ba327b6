package lot_test

import (
	"math/rand"
	"slices"
	"testing"

	"bitepoint/api"
	"bitepoint/lot"
)

// count is what Count returns for a draw without an error.
func count(t *testing.T, d api.LoDraw) int {
	t.Helper()
	many, e := lot.Count(d)
	if e != api.OK {
		t.Fatalf("%v: Count = %d, %d", d, many, e)
	}
	return many
}

// short is what Short returns for a draw without an error.
func short(t *testing.T, d api.LoDraw) []int {
	t.Helper()
	tests, e := lot.Short(d)
	if e != api.OK {
		t.Fatalf("%v: Short = %v, %d", d, tests, e)
	}
	return tests
}

// pick is what Pick returns for a draw with an allowed assignment.
func pick(t *testing.T, d api.LoDraw, by int) []int {
	t.Helper()
	assignment, e := lot.Pick(d, by)
	if e != api.OK || len(assignment) != len(d.Knows) {
		t.Fatalf("%v: Pick by %d = %v, %d", d, by, assignment, e)
	}
	return assignment
}

// index is what Index returns for an allowed assignment.
func index(t *testing.T, d api.LoDraw, assignment []int) int {
	t.Helper()
	is, e := lot.Index(d, assignment)
	if e != api.OK {
		t.Fatalf("%v: Index of %v = %d, %d", d, assignment, is, e)
	}
	return is
}

// TestNobodyKnown checks P8.6 with draws of any size: what is picked is
// allowed, its index is the lot modulo the count, and it is picked by its index.
func TestNobodyKnown(t *testing.T) {
	r := rand.New(rand.NewSource(86))
	great := 0
	for range 2000 {
		d := randomDraw(r, 8)
		many := count(t, d)
		if many == 0 {
			continue
		}
		if many > 10000 {
			great++
		}
		for _, by := range []int{0, 1, many - 1, many, r.Intn(2147483647), 2147483645, 2147483646} {
			assignment := pick(t, d, by)
			if slices.Min(append(assignment, 0)) < 0 || slices.Max(append(assignment, 0)) >= len(d.Times) || !isAllowed(d, assignment) {
				t.Fatalf("%v: Pick by %d = %v", d, by, assignment)
			}
			at := index(t, d, assignment)
			if at != by%many {
				t.Fatalf("%v: Pick by %d = %v, whose index is %d of %d", d, by, assignment, at, many)
			}
			if again := pick(t, d, at); !slices.Equal(again, assignment) {
				t.Fatalf("%v: Pick by %d = %v, and by its index %v", d, by, assignment, again)
			}
		}
	}
	if great < 20 {
		t.Errorf("only %d draws have many allowed assignments", great)
	}
}

// TestEveryIndex checks P8.6 for any allowed assignment, and that they come in
// order.
func TestEveryIndex(t *testing.T) {
	r := rand.New(rand.NewSource(861))
	for range 500 {
		d := randomDraw(r, 5)
		for i, assignment := range allowedOf(d) {
			if at := index(t, d, assignment); at != i {
				t.Fatalf("%v: Index of %v = %d, not %d", d, assignment, at, i)
			}
			if is := pick(t, d, i); !slices.Equal(is, assignment) {
				t.Fatalf("%v: Pick by %d = %v, not %v", d, i, is, assignment)
			}
		}
	}
}

// TestAsLikely checks P8.7: lots that follow each other pick all assignments in
// turn, from the first lot on and up to the last one.
func TestAsLikely(t *testing.T) {
	r := rand.New(rand.NewSource(87))
	for range 200 {
		d := randomDraw(r, 4)
		many := count(t, d)
		if many == 0 {
			continue
		}
		for _, first := range []int{0, r.Intn(2147480000), 2147483647 - 2*many} {
			picked := map[int]int{}
			for by := first; by < first+2*many; by++ {
				picked[index(t, d, pick(t, d, by))]++
			}
			for at := range many {
				if picked[at] != 2 {
					t.Fatalf("%v: of the lots from %d on %v pick the assignments", d, first, picked)
				}
			}
		}
		// The turns go on in between: the last lot is in the turn that began at 0.
		if at := index(t, d, pick(t, d, 2147483646)); at != 2147483646%many {
			t.Fatalf("%v: the last lot picks %d of %d", d, at, many)
		}
	}
}

// TestOneIsHonest checks P8.8: who shows what was promised, and picks by the
// lot, is honest, and any other assignment of the same numbers is not.
func TestOneIsHonest(t *testing.T) {
	r := rand.New(rand.NewSource(881))
	some := 0
	for range 300 {
		d := randomDraw(r, 4)
		numbers := randomNumbers(r)
		promises := make([]int, len(numbers))
		for party, number := range numbers {
			promises[party], _ = lot.Promise(party, number)
		}
		by, e := lot.Lot(numbers)
		if e != api.OK {
			t.Fatalf("Lot of %v = %d, %d", numbers, by, e)
		}
		picked, e := lot.Pick(d, by)
		cheated := slices.Clone(promises)
		cheat := r.Intn(len(numbers))
		cheated[cheat] = (cheated[cheat] + 1 + r.Intn(2147483646)) % 2147483647
		for _, assignment := range everything(d) {
			want := e == api.OK && slices.Equal(assignment, picked)
			if is, e := lot.Honest(d, promises, numbers, assignment); is != want || e != api.OK {
				t.Fatalf("%v, %v: Honest of %v = %t, %d, and picked is %v", d, numbers, assignment, is, e, picked)
			}
			if is, e := lot.Honest(d, cheated, numbers, assignment); is || e != api.OK {
				t.Fatalf("%v, %v: Honest of %v with the promises %v = %t, %d", d, numbers, assignment, cheated, is, e)
			}
		}
		if e == api.OK {
			some++
		}
	}
	if some < 100 {
		t.Errorf("only %d draws have an allowed assignment", some)
	}
}

// TestNoDraw checks P8.10 with draws of any size.
func TestNoDraw(t *testing.T) {
	r := rand.New(rand.NewSource(810))
	sizes := map[int]int{}
	for range 2000 {
		d := randomDraw(r, 8)
		tests := short(t, d)
		sizes[len(tests)]++
		if (count(t, d) == 0) != (len(tests) > 0) {
			t.Fatalf("%v: Count = %d, Short = %v", d, count(t, d), tests)
		}
		if len(tests) == 0 {
			for _, list := range listsOf(len(d.Knows)) {
				if areShort(d, list) {
					t.Fatalf("%v: %v are short of examiners", d, list)
				}
			}
			continue
		}
		if !areShort(d, tests) || !slices.IsSorted(tests) {
			t.Fatalf("%v: Short = %v", d, tests)
		}
		for i := range tests {
			if less := slices.Delete(slices.Clone(tests), i, i+1); areShort(d, less) {
				t.Fatalf("%v: Short = %v, but %v are short, too", d, tests, less)
			}
			// The other ones can be taken, if no other tests are.
			alone := api.LoDraw{Times: d.Times}
			for j, test := range tests {
				if j != i {
					alone.Knows = append(alone.Knows, d.Knows[test])
				}
			}
			if count(t, alone) == 0 {
				t.Fatalf("%v: Short = %v, but without %d they can't be taken", d, tests, tests[i])
			}
		}
	}
	for size := range 7 {
		if sizes[size] < 10 {
			t.Errorf("only %d draws have %d tests that are short", sizes[size], size)
		}
	}
}

// TestMore checks P8.11.
func TestMore(t *testing.T) {
	r := rand.New(rand.NewSource(8111))
	times, less, tests := 0, 0, 0
	for range 3000 {
		d := randomDraw(r, 8)
		many := count(t, d)
		examiner := r.Intn(len(d.Times))
		if d.Times[examiner] < 4 {
			more := cloneDraw(d)
			more.Times[examiner]++
			is := count(t, more)
			if is < many {
				t.Fatalf("%v: Count = %d, and with a test more for %d %d", d, many, examiner, is)
			}
			times += min(1, is-many)
		}
		for test := range d.Knows {
			if !knows(d, examiner, test) {
				continue
			}
			fewer := cloneDraw(d)
			fewer.Knows[test] -= 1 << examiner
			is := count(t, fewer)
			if is < many {
				t.Fatalf("%v: Count = %d, and if %d does not know the learner of %d, %d", d, many, examiner, test, is)
			}
			less += min(1, is-many)
		}
		if len(d.Knows) < 8 {
			longer := cloneDraw(d)
			longer.Knows = slices.Insert(longer.Knows, r.Intn(len(d.Knows)+1), 0)
			is := count(t, longer)
			if is > many*len(d.Times) {
				t.Fatalf("%v: Count = %d, and with a test more %d", d, many, is)
			}
			tests += min(1, is)
		}
	}
	if times < 500 || less < 500 || tests < 500 {
		t.Errorf("only %d counts are greater with a test more for an examiner, %d with a learner less that is known, and %d not 0 with a test more", times, less, tests)
	}
}

// TestOtherNames checks P8.12: examiners in another order.
func TestOtherNames(t *testing.T) {
	r := rand.New(rand.NewSource(8121))
	for range 2000 {
		d := randomDraw(r, 8)
		other := api.LoDraw{Times: make([]int, len(d.Times)), Knows: make([]int, len(d.Knows))}
		order := r.Perm(len(d.Times))
		for from, to := range order {
			other.Times[to] = d.Times[from]
			for test := range d.Knows {
				if knows(d, from, test) {
					other.Knows[test] |= 1 << to
				}
			}
		}
		if a, b := count(t, d), count(t, other); a != b {
			t.Fatalf("%v: Count = %d, and in the order %v %d", d, a, order, b)
		}
		if a, b := short(t, d), short(t, other); !slices.Equal(a, b) {
			t.Fatalf("%v: Short = %v, and in the order %v %v", d, a, order, b)
		}
	}
}

// TestGreatestDraw checks P8.2 and P8.3 for the draw with the most allowed
// assignments, which are counted one by one.
func TestGreatestDraw(t *testing.T) {
	d := free(6, 4, 8)
	want := 0
	for n := range 6 * 6 * 6 * 6 * 6 * 6 * 6 * 6 {
		var many [6]int
		for range 8 {
			many[n%6]++
			n /= 6
		}
		if slices.Max(many[:]) <= 4 {
			want++
		}
	}
	many := count(t, d)
	if many != want {
		t.Fatalf("Count = %d, not %d", many, want)
	}
	if first := pick(t, d, many); !slices.Equal(first, []int{0, 0, 0, 0, 1, 1, 1, 1}) {
		t.Errorf("the first one is %v", first)
	}
	if last := pick(t, d, many-1); !slices.Equal(last, []int{5, 5, 5, 5, 4, 4, 4, 4}) {
		t.Errorf("the last one is %v", last)
	}
	if before := pick(t, d, many-2); !slices.Equal(before, []int{5, 5, 5, 5, 4, 4, 4, 3}) || index(t, d, before) != many-2 {
		t.Errorf("the one before it is %v", before)
	}
}

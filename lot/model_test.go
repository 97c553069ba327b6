package lot_test

import (
	"math/rand"
	"slices"
	"testing"

	"bitepoint/api"
	"bitepoint/lot"
)

// example is D of the document's examples.
func example() api.LoDraw { return api.LoDraw{Times: []int{1, 1, 2}, Knows: []int{1, 1, 6}} }

// without is E of the document's examples, for which there is no assignment.
func without() api.LoDraw { return api.LoDraw{Times: []int{1, 1, 2}, Knows: []int{1, 1, 6, 6}} }

// cloneDraw is a copy of a draw, without shared memory.
func cloneDraw(d api.LoDraw) api.LoDraw {
	return api.LoDraw{Times: slices.Clone(d.Times), Knows: slices.Clone(d.Knows)}
}

// randomDraw is a draw without an error and with at most so many tests, mostly
// with about as many Times as tests. Some draws have examiners that all know
// the same learners, so that many tests are short together.
func randomDraw(r *rand.Rand, tests int) api.LoDraw {
	d := api.LoDraw{Times: make([]int, 1+r.Intn(6)), Knows: make([]int, r.Intn(tests+1))}
	for range max(0, len(d.Knows)-2+r.Intn(7)) {
		if examiner := r.Intn(len(d.Times)); d.Times[examiner] < 4 {
			d.Times[examiner]++
		}
	}
	density, same := r.Intn(3), r.Intn(1<<len(d.Times))
	for test := range d.Knows {
		for examiner := range d.Times {
			if r.Intn(4) < density {
				d.Knows[test] |= 1 << examiner
			}
		}
		if density == 1 && r.Intn(4) > 0 {
			d.Knows[test] = same
		}
	}
	return d
}

// knows reports whether an examiner knows the learner of a test.
func knows(d api.LoDraw, examiner, test int) bool { return d.Knows[test]&(1<<examiner) != 0 }

// isAllowed reports whether an assignment is allowed.
func isAllowed(d api.LoDraw, assignment []int) bool {
	many := make([]int, len(d.Times))
	for test, examiner := range assignment {
		many[examiner]++
		if knows(d, examiner, test) || many[examiner] > d.Times[examiner] {
			return false
		}
	}
	return true
}

// everything is all assignments, allowed or not, in their order.
func everything(d api.LoDraw) [][]int {
	lists := [][]int{nil}
	for range d.Knows {
		var longer [][]int
		for _, list := range lists {
			for examiner := range d.Times {
				longer = append(longer, append(slices.Clone(list), examiner))
			}
		}
		lists = longer
	}
	return lists
}

// allowedOf is all allowed assignments, in their order.
func allowedOf(d api.LoDraw) [][]int {
	return slices.DeleteFunc(everything(d), func(list []int) bool { return !isAllowed(d, list) })
}

// areShort reports whether tests are short of examiners.
func areShort(d api.LoDraw, tests []int) bool {
	together := 0
	for examiner, times := range d.Times {
		if slices.ContainsFunc(tests, func(test int) bool { return !knows(d, examiner, test) }) {
			together += times
		}
	}
	return together < len(tests)
}

// listsOf are all lists of numbers below a number, each ascending.
func listsOf(below int) [][]int {
	if below == 0 {
		return [][]int{nil}
	}
	lists := listsOf(below - 1)
	for _, list := range slices.Clone(lists) {
		lists = append(lists, append(slices.Clone(list), below-1))
	}
	return lists
}

// shortOf are the fewest tests that are short, the first such list of several.
func shortOf(d api.LoDraw) []int {
	var best []int
	for _, list := range listsOf(len(d.Knows)) {
		if !areShort(d, list) {
			continue
		}
		if best == nil || len(list) < len(best) || len(list) == len(best) && slices.Compare(list, best) < 0 {
			best = list
		}
	}
	return best
}

// TestAnyDraw checks P8.2, P8.3 and P8.4 against the document's words.
func TestAnyDraw(t *testing.T) {
	r := rand.New(rand.NewSource(82))
	none, some, shortOfSome := 0, 0, map[int]int{}
	for range 4000 {
		d := randomDraw(r, 5)
		allowed := allowedOf(d)
		if many, e := lot.Count(d); many != len(allowed) || e != api.OK {
			t.Fatalf("%v: Count = %d, %d, not %d", d, many, e, len(allowed))
		}
		picked := r.Intn(2147483647)
		is, e := lot.Pick(d, picked)
		if len(allowed) == 0 {
			none++
			if is != nil || e != api.ErrDown {
				t.Fatalf("%v: Pick = %v, %d", d, is, e)
			}
		} else if want := allowed[picked%len(allowed)]; !slices.Equal(is, want) || e != api.OK {
			t.Fatalf("%v: Pick by %d = %v, %d, not %v", d, picked, is, e, want)
		}
		some += min(1, len(allowed)/2)
		short := shortOf(d)
		if is, e := lot.Short(d); !slices.Equal(is, short) || e != api.OK {
			t.Fatalf("%v: Short = %v, %d, not %v", d, is, e, short)
		}
		if (len(short) > 0) != (len(allowed) == 0) {
			t.Fatalf("%v: %v are short, and %d assignments allowed", d, short, len(allowed))
		}
		shortOfSome[len(short)]++
	}
	if none < 1000 || some < 1000 {
		t.Errorf("only %d draws have no allowed assignment, and %d some", none, some)
	}
	for tests := range 6 {
		if shortOfSome[tests] < 20 {
			t.Errorf("only %d draws have %d tests that are short", shortOfSome[tests], tests)
		}
	}
}

// TestAnyIndex checks what P8.3 says of Index, for all assignments of draws.
func TestAnyIndex(t *testing.T) {
	r := rand.New(rand.NewSource(83))
	good, bad := 0, 0
	for range 1200 {
		d := randomDraw(r, 4)
		index := 0
		for _, assignment := range everything(d) {
			is, e := lot.Index(d, assignment)
			if !isAllowed(d, assignment) {
				bad++
				if is != 0 || e != api.ErrArg {
					t.Fatalf("%v: Index of %v = %d, %d", d, assignment, is, e)
				}
				continue
			}
			if is != index || e != api.OK {
				t.Fatalf("%v: Index of %v = %d, %d, not %d", d, assignment, is, e, index)
			}
			index++
			good++
		}
	}
	if good < 3000 || bad < 3000 {
		t.Errorf("only %d assignments are allowed, and %d are not", good, bad)
	}
}

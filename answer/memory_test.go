package answer_test

import (
	"math"
	"math/rand"
	"reflect"
	"slices"
	"testing"

	"bitepoint/answer"
	"bitepoint/api"
)

// wild are numbers that are at the ends of ranges, or far beyond them.
var wild = []int{0, 1, -1, 2, 3, 4, 5, 7, 8, 12, 13, 20, 21, -20, 240, 241, -240, -241, math.MinInt, math.MinInt + 1, math.MaxInt, math.MaxInt - 1, 1 << 32, -1 << 31}

// wildNumber is one of them.
func wildNumber(r *rand.Rand) int { return wild[r.Intn(len(wild))] }

// wildNumbers are some of them.
func wildNumbers(r *rand.Rand, below int) []int {
	list := make([]int, r.Intn(below))
	for i := range list {
		list[i] = wildNumber(r)
	}
	return list
}

// arguments are what the functions are called with.
type arguments struct {
	k        api.AnKey
	sheet    [][]int
	question int
	sheets   [][][]int
}

// wildArguments are arguments that are often not valid.
func wildArguments(r *rand.Rand) arguments {
	k, sheet := randomPair(r, r.Intn(4))
	a := arguments{k: k, sheet: sheet, question: r.Intn(len(k.Questions))}
	for range r.Intn(4) {
		a.sheets = append(a.sheets, randomSheet(r, k, r.Intn(4)))
	}
	switch r.Intn(8) {
	case 0:
		spoilKey(r, &a.k)
	case 1:
		a.sheet = spoiled(r, a.sheet)
	case 2:
		a.question = wildNumber(r)
	case 3:
		a.sheets = append(a.sheets, spoiled(r, a.sheet))
	case 4:
		a.sheets = slices.Repeat([][][]int{a.sheet}, r.Intn(40))
	}
	return a
}

// spoilKey makes a key mostly not valid.
func spoilKey(r *rand.Rand, k *api.AnKey) {
	q := &k.Questions[r.Intn(len(k.Questions))]
	switch r.Intn(9) {
	case 0:
		*k = api.AnKey{}
	case 1:
		k.Questions = slices.Repeat(k.Questions, r.Intn(5))
	case 2:
		k.Parts = wildNumbers(r, 8)
	case 3:
		k.Parts[r.Intn(len(k.Parts))] = wildNumber(r)
	case 4:
		k.All = wildNumber(r)
	case 5:
		q.Part = wildNumber(r)
	case 6:
		q.Boxes = wildNumber(r)
	case 7:
		q.Right = wildNumber(r)
	case 8:
		q.Points, q.Minus = wildNumber(r), wildNumber(r)
	}
}

// spoiled is a sheet that is mostly not valid.
func spoiled(r *rand.Rand, sheet [][]int) [][]int {
	sheet = cloneSheet(sheet)
	question := r.Intn(len(sheet))
	switch r.Intn(6) {
	case 0:
		return nil
	case 1:
		return slices.Repeat(sheet, r.Intn(4))
	case 2:
		sheet[question] = wildNumbers(r, 8)
	case 3:
		sheet[question][0] = wildNumber(r)
	case 4:
		sheet[question] = append(sheet[question], 0)
	case 5:
		for i, list := range sheet {
			sheet[i] = slices.Repeat([]int{api.AnUnsure}, len(list))
		}
	}
	return sheet
}

// clone is a copy of arguments, without shared memory.
func (a arguments) clone() arguments {
	a.k, a.sheet, a.sheets = cloneKey(a.k), cloneSheet(a.sheet), slices.Clone(a.sheets)
	for i, sheet := range a.sheets {
		a.sheets[i] = cloneSheet(sheet)
	}
	return a
}

// result is what a function returns, and its error.
type result struct {
	values []any
	e      api.Errno
}

// results are the results of all functions but Check, whose indices are not
// zero with an error.
func (a arguments) results() []result {
	points, passes, e1 := answer.Mark(a.k, a.sheet)
	outcome, e2 := answer.Outcome(a.k, a.sheet)
	scores, e3 := answer.Scores(a.k, a.sheet)
	deciding, e4 := answer.Decide(a.k, a.sheet)
	box, many, e5 := answer.Look(a.k, a.sheet)
	struck, e6 := answer.Strike(a.k, a.question)
	missed, e7 := answer.Missed(a.k, a.sheets)
	return []result{{[]any{points, passes}, e1}, {[]any{outcome}, e2}, {[]any{scores}, e3}, {[]any{deciding}, e4}, {[]any{box, many}, e5}, {[]any{struck}, e6}, {[]any{missed}, e7}}
}

// TestAnyArguments checks P7.14 and P1: all functions accept any arguments, do
// not change them, return the same for the same ones, and nothing with an
// error.
func TestAnyArguments(t *testing.T) {
	r := rand.New(rand.NewSource(714))
	errors := make([]map[api.Errno]int, 7)
	for i := range errors {
		errors[i] = map[api.Errno]int{}
	}
	for range 6000 {
		a := wildArguments(r)
		old := a.clone()
		first := a.results()
		if second := a.results(); !reflect.DeepEqual(first, second) {
			t.Fatalf("%v: %v, then %v", a, first, second)
		}
		if part, at, e := answer.Check(a.k); e == api.OK && (part != 0 || at != 0) || e != api.OK && (part < 1 || part > 4) {
			t.Fatalf("%v: Check = %d, %d, %d", a.k, part, at, e)
		}
		if !reflect.DeepEqual(a, old) {
			t.Fatalf("arguments have changed: %v, not %v", a, old)
		}
		for i, one := range first {
			errors[i][one.e]++
			for _, value := range one.values {
				if one.e != api.OK && !reflect.ValueOf(value).IsZero() {
					t.Fatalf("%v: the function %d returns %v with the error %d", a, i, one.values, one.e)
				}
			}
		}
	}
	for i := range errors {
		want := []api.Errno{api.OK, api.ErrLong, api.ErrNone, api.ErrRange}
		if i == 0 {
			want = append(want, api.ErrArg)
		}
		for _, e := range want {
			if errors[i][e] < 20 {
				t.Errorf("the function %d returns %d only %d times", i, e, errors[i][e])
			}
		}
		if len(errors[i]) != len(want) {
			t.Errorf("the function %d returns %v", i, errors[i])
		}
	}
}

// spoil overwrites a slice, and all that lies behind it in the same memory.
func spoil[T any](list []T, with T) {
	list = list[:cap(list)]
	for i := range list {
		list[i] = with
	}
}

// TestResultsAreNewMemory checks P7.14: it overwrites results, and neither
// arguments nor further results change.
func TestResultsAreNewMemory(t *testing.T) {
	a := arguments{k: example(), sheet: exampleSheet(), sheets: [][][]int{exampleSheet()}}
	a.k.Questions, a.k.Parts = slices.Grow(a.k.Questions, 8), slices.Grow(a.k.Parts, 8)
	old := a.clone()
	reading := [][]int{{0, 1, 0}, {1, 0}, {0, 0, 1}}
	for range 2 {
		points, _, e := answer.Mark(a.k, reading)
		if !slices.Equal(points, []int{7, 5}) || e != api.OK {
			t.Fatalf("Mark = %v, %d", points, e)
		}
		spoil(points, -99)
		scores, e := answer.Scores(a.k, a.sheet)
		if !slices.Equal(scores, []int{3, 7, 8, 12}) || e != api.OK {
			t.Fatalf("Scores = %v, %d", scores, e)
		}
		spoil(scores, -99)
		deciding, e := answer.Decide(a.k, a.sheet)
		if !slices.Equal(deciding, []api.AnBox{{Question: 0, Box: 2}, {Question: 2, Box: 0}}) || e != api.OK {
			t.Fatalf("Decide = %v, %d", deciding, e)
		}
		spoil(deciding, api.AnBox{Question: -99})
		missed, e := answer.Missed(a.k, a.sheets)
		if !slices.Equal(missed, []api.Span{{Lo: 0, Hi: 1}, {}, {Lo: 0, Hi: 1}}) || e != api.OK {
			t.Fatalf("Missed = %v, %d", missed, e)
		}
		spoil(missed, api.Span{Lo: -99})
		for question := range 3 {
			struck, e := answer.Strike(a.k, question)
			want := slices.Delete(example().Questions, question, question+1)
			if !slices.Equal(struck.Questions, want) || e != api.OK {
				t.Fatalf("Strike of %d = %v, %d", question, struck, e)
			}
			spoil(struck.Questions, api.AnQuestion{Part: -99})
			spoil(struck.Parts, -99)
		}
		if !reflect.DeepEqual(a, old) {
			t.Fatalf("a result shares the memory of an argument: %v, not %v", a, old)
		}
	}
}

package paper_test

import (
	"math"
	"math/rand"
	"reflect"
	"slices"
	"testing"

	"bitepoint/api"
	"bitepoint/paper"
)

// wild are numbers that are at the ends of ranges, or far beyond them.
var wild = []int{0, 1, -1, 2, 3, 4, 5, 6, 7, 15, 16, 17, 500, 1000, 16000, 16001, 100000, 100001, 1000000000, 1000000001, math.MinInt, math.MinInt + 1, math.MaxInt, math.MaxInt - 1, 1 << 32, -1 << 31}

// wildNumber is one of them.
func wildNumber(r *rand.Rand) int { return wild[r.Intn(len(wild))] }

// wildNumbers are some of them.
func wildNumbers(r *rand.Rand, below int) []int {
	list := make([]int, r.Intn(below))
	for i := range list {
		list[i] = wildNumber(r)
	}
	return list
}

// arguments are what the functions are called with.
type arguments struct {
	b            api.PaBank
	h            api.PaHall
	number, many int
	list         []int
	numbers      []int
	papers       [][]int
}

// wildArguments are arguments that are often not valid.
func wildArguments(r *rand.Rand) arguments {
	b := randomBank(r)
	h := randomHall(r, b)
	a := arguments{b: b, h: h, number: r.Intn(4), many: 1 + r.Intn(4), list: randomList(r, b), numbers: randomNumbers(r, h)}
	for range a.numbers {
		a.papers = append(a.papers, randomList(r, b))
	}
	if drawn, e := paper.Draw(b, h, a.numbers); e == api.OK && r.Intn(2) == 0 {
		a.papers = drawn
	}
	for _, n := range []*int{&a.number, &a.many, &a.h.Rows, &a.h.Seats, &a.h.Common} {
		if r.Intn(12) == 0 {
			*n = wildNumber(r)
		}
	}
	switch r.Intn(6) {
	case 0:
		a.list, a.numbers = wildNumbers(r, 20), wildNumbers(r, 40)
	case 1:
		a.papers = nil
		for range r.Intn(40) {
			a.papers = append(a.papers, wildNumbers(r, 20))
		}
	case 2:
		spoilBank(r, &a.b)
	}
	return a
}

// spoilBank makes a bank mostly not valid.
func spoilBank(r *rand.Rand, b *api.PaBank) {
	switch r.Intn(7) {
	case 0:
		*b = api.PaBank{}
	case 1:
		b.Questions = slices.Repeat(b.Questions, r.Intn(4))
	case 2:
		b.Questions[r.Intn(len(b.Questions))] = api.PaQuestion{Part: wildNumber(r), Asked: wildNumber(r), Wrong: wildNumber(r)}
	case 3:
		b.Wanted = wildNumbers(r, 8)
	case 4:
		b.Wanted[r.Intn(len(b.Wanted))] = wildNumber(r)
	case 5:
		b.Level = api.Span{Lo: wildNumber(r), Hi: wildNumber(r)}
	case 6:
		b.Wanted = append(b.Wanted, 1)
	}
}

// clone is a copy of arguments, without shared memory.
func (a arguments) clone() arguments {
	a.b, a.list, a.numbers, a.papers = cloneBank(a.b), slices.Clone(a.list), slices.Clone(a.numbers), slices.Clone(a.papers)
	for i, list := range a.papers {
		a.papers[i] = slices.Clone(list)
	}
	return a
}

// result is what a function returns, and its error.
type result struct {
	value any
	e     api.Errno
}

// results are the results of all functions but Check and Accept, whose indices
// are not zero with an error.
func (a arguments) results() []result {
	weights, e1 := paper.Weights(a.b)
	many, e2 := paper.Count(a.b)
	list, e3 := paper.Nth(a.b, a.number)
	number, e4 := paper.Number(a.b, a.list)
	papers, e5 := paper.Draw(a.b, a.h, a.numbers)
	span, e6 := paper.Fair(a.b, a.many)
	return []result{{weights, e1}, {many, e2}, {list, e3}, {number, e4}, {papers, e5}, {span, e6}}
}

// TestAnyArguments checks P6.14 and P1: all functions accept any arguments, do
// not change them, return the same for the same ones, and nothing with an
// error.
func TestAnyArguments(t *testing.T) {
	r := rand.New(rand.NewSource(614))
	failed := make([]int, 6)
	accepted := map[api.Errno]int{}
	for range 4000 {
		a := wildArguments(r)
		old := a.clone()
		first := a.results()
		if second := a.results(); !reflect.DeepEqual(first, second) {
			t.Fatalf("%v: %v, then %v", a, first, second)
		}
		if part, at, e := paper.Check(a.b); e == api.OK && (part != 0 || at != 0) || e != api.OK && part == 0 {
			t.Fatalf("%v: Check = %d, %d, %d", a.b, part, at, e)
		}
		seat, e := paper.Accept(a.b, a.h, a.papers)
		if e != api.ErrForm && e != api.ErrTwice && seat != 0 {
			t.Fatalf("%v: Accept = %d, %d", a, seat, e)
		}
		accepted[e]++
		if !reflect.DeepEqual(a, old) {
			t.Fatalf("arguments have changed: %v, not %v", a, old)
		}
		for i, one := range first {
			if one.e == api.OK {
				continue
			}
			failed[i]++
			if !reflect.ValueOf(one.value).IsZero() {
				t.Fatalf("%v: %d returns %v with the error %d", a, i, one.value, one.e)
			}
		}
	}
	for i, times := range failed {
		if times == 0 || times == 4000 {
			t.Errorf("%d has failed %d times", i, times)
		}
	}
	for _, e := range []api.Errno{api.OK, api.ErrRange, api.ErrLong, api.ErrForm, api.ErrTwice} {
		if accepted[e] == 0 {
			t.Errorf("Accept never returns %d", e)
		}
	}
}

// spoil overwrites a slice, and all that lies behind it in the same memory.
func spoil(list []int) {
	list = list[:cap(list)]
	for i := range list {
		list[i] = -99
	}
}

// TestResultsAreNewMemory checks P6.14: it overwrites results, and neither
// arguments nor further results, nor other parts of the same result, change.
func TestResultsAreNewMemory(t *testing.T) {
	a := arguments{b: example(), h: api.PaHall{Rows: 2, Seats: 2, Common: 1}, numbers: slices.Grow([]int{0, 0, 0, 0}, 8)}
	a.b.Questions, a.b.Wanted = slices.Grow(a.b.Questions, 8), slices.Grow(a.b.Wanted, 8)
	old := a.clone()
	for range 2 {
		weights, e := paper.Weights(a.b)
		if !slices.Equal(weights, []int{200, 500, 300, 600, 400}) || e != api.OK {
			t.Fatalf("Weights = %v, %d", weights, e)
		}
		spoil(weights)
		list, e := paper.Nth(a.b, 1)
		if !slices.Equal(list, []int{0, 3, 4}) || e != api.OK {
			t.Fatalf("Nth = %v, %d", list, e)
		}
		spoil(list)
		papers, e := paper.Draw(a.b, a.h, a.numbers)
		if len(papers) != 4 || e != api.OK {
			t.Fatalf("Draw = %v, %d", papers, e)
		}
		// The seats across have the same papers, but not the same memory.
		for seat, want := range [][]int{{0, 2, 3}, {1, 2, 4}, {1, 2, 4}, {0, 2, 3}} {
			if !slices.Equal(papers[seat], want) {
				t.Fatalf("Draw = %v", papers)
			}
			spoil(papers[seat])
		}
		if !reflect.DeepEqual(a, old) {
			t.Fatalf("a result shares the memory of an argument: %v, not %v", a, old)
		}
	}
}

package paper_test

import (
	"math"
	"math/rand"
	"slices"
	"testing"

	"bitepoint/api"
	"bitepoint/paper"
)

// example is B of the document's examples.
func example() api.PaBank {
	return api.PaBank{
		Questions: []api.PaQuestion{{Part: 0, Asked: 10, Wrong: 2}, {Part: 0}, {Part: 1, Asked: 10, Wrong: 3}, {Part: 1, Asked: 5, Wrong: 3}, {Part: 1, Asked: 5, Wrong: 2}},
		Wanted:    []int{1, 2},
		Level:     api.Span{Lo: 1000, Hi: 1300},
	}
}

// room is the hall of the document's examples.
func room() api.PaHall { return api.PaHall{Rows: 1, Seats: 3, Common: 1} }

// bank is a bank with questions that nobody was asked, as many of each part as
// there are, and at any level.
func bank(there, wanted []int) api.PaBank {
	b := api.PaBank{Wanted: wanted, Level: api.Span{Lo: 0, Hi: 16000}}
	for part, many := range there {
		b.Questions = append(b.Questions, slices.Repeat([]api.PaQuestion{{Part: part}}, many)...)
	}
	return b
}

// cloneBank is a copy of a bank, without shared memory.
func cloneBank(b api.PaBank) api.PaBank {
	b.Questions, b.Wanted = slices.Clone(b.Questions), slices.Clone(b.Wanted)
	return b
}

// checkCases are changes of the example, and where its first error is then.
var checkCases = []struct {
	change   func(b *api.PaBank)
	part, at int
	e        api.Errno
}{
	{func(b *api.PaBank) {}, 0, 0, api.OK},
	// How many there are.
	{func(b *api.PaBank) { b.Questions, b.Level.Lo = nil, -1 }, 1, 0, api.ErrLong},
	{func(b *api.PaBank) { b.Questions = []api.PaQuestion{} }, 1, 0, api.ErrLong},
	{func(b *api.PaBank) { *b = bank([]int{1}, []int{1}) }, 0, 0, api.OK},
	{func(b *api.PaBank) { *b = bank([]int{16}, []int{1}) }, 0, 0, api.OK},
	{func(b *api.PaBank) { *b = bank([]int{17}, []int{1}) }, 1, 0, api.ErrLong},
	{func(b *api.PaBank) { b.Questions, b.Level = make([]api.PaQuestion, 17), api.Span{Lo: 5, Hi: 4} }, 1, 0, api.ErrLong},
	{func(b *api.PaBank) { b.Wanted, b.Level.Hi = nil, 16001 }, 1, 0, api.ErrLong},
	{func(b *api.PaBank) { b.Wanted = []int{} }, 1, 0, api.ErrLong},
	{func(b *api.PaBank) { *b = bank([]int{1, 2, 1, 3}, []int{1, 1, 1, 3}) }, 0, 0, api.OK},
	{func(b *api.PaBank) { *b = bank([]int{1, 1, 1, 1, 1}, []int{1, 1, 1, 1, 1}) }, 1, 0, api.ErrLong},
	{func(b *api.PaBank) { b.Wanted, b.Questions[0].Part = make([]int, 5), -1 }, 1, 0, api.ErrLong},
	// The level.
	{func(b *api.PaBank) { b.Level = api.Span{Lo: 1, Hi: 0}; b.Wanted = nil }, 1, 0, api.ErrLong},
	{func(b *api.PaBank) { b.Level = api.Span{Lo: -1, Hi: 1300} }, 1, 0, api.ErrRange},
	{func(b *api.PaBank) { b.Level = api.Span{Lo: 0, Hi: -1} }, 1, 0, api.ErrRange},
	{func(b *api.PaBank) { b.Level = api.Span{Lo: 16001, Hi: 16000} }, 1, 0, api.ErrRange},
	{func(b *api.PaBank) { b.Level = api.Span{Lo: 0, Hi: 16001}; b.Questions[0].Part = 2 }, 1, 0, api.ErrRange},
	{func(b *api.PaBank) { b.Level = api.Span{Lo: math.MinInt, Hi: math.MaxInt} }, 1, 0, api.ErrRange},
	{func(b *api.PaBank) { b.Level = api.Span{Lo: math.MaxInt, Hi: math.MinInt} }, 1, 0, api.ErrRange},
	{func(b *api.PaBank) { b.Level = api.Span{Lo: 0, Hi: 16000} }, 0, 0, api.OK},
	{func(b *api.PaBank) { b.Level = api.Span{Lo: 16000, Hi: 16000} }, 0, 0, api.OK},
	{func(b *api.PaBank) { b.Level = api.Span{} }, 0, 0, api.OK},
	{func(b *api.PaBank) { b.Level = api.Span{Lo: 1, Hi: 0}; b.Questions[0].Part = 2 }, 1, 0, api.ErrArg},
	{func(b *api.PaBank) { b.Level = api.Span{Lo: 16000, Hi: 15999}; b.Wanted[0] = 0 }, 1, 0, api.ErrArg},
	// Questions.
	{func(b *api.PaBank) { b.Questions[0] = api.PaQuestion{Part: -1, Asked: -1} }, 2, 0, api.ErrNone},
	{func(b *api.PaBank) { b.Questions[4] = api.PaQuestion{Part: 2, Wrong: 1} }, 2, 4, api.ErrNone},
	{func(b *api.PaBank) { b.Questions[2].Part = math.MaxInt }, 2, 2, api.ErrNone},
	{func(b *api.PaBank) { b.Questions[2].Part = math.MinInt }, 2, 2, api.ErrNone},
	{func(b *api.PaBank) { b.Questions[1].Asked, b.Questions[0].Part = -1, 5 }, 2, 0, api.ErrNone},
	{func(b *api.PaBank) { b.Questions[0].Asked, b.Questions[1].Part = -1, 5 }, 2, 0, api.ErrRange},
	{func(b *api.PaBank) { b.Questions[1] = api.PaQuestion{Asked: -1, Wrong: -1} }, 2, 1, api.ErrRange},
	{func(b *api.PaBank) { b.Questions[1].Asked = 100000 }, 0, 0, api.OK},
	{func(b *api.PaBank) { b.Questions[1].Asked, b.Wanted[0] = 100001, 0 }, 2, 1, api.ErrRange},
	{func(b *api.PaBank) { b.Questions[1].Asked = math.MaxInt }, 2, 1, api.ErrRange},
	{func(b *api.PaBank) { b.Questions[1].Asked = math.MinInt }, 2, 1, api.ErrRange},
	{func(b *api.PaBank) { b.Questions[3].Wrong = -1 }, 2, 3, api.ErrRange},
	{func(b *api.PaBank) { b.Questions[3].Wrong = 0 }, 0, 0, api.OK},
	{func(b *api.PaBank) { b.Questions[3].Wrong = 5 }, 0, 0, api.OK},
	{func(b *api.PaBank) { b.Questions[3].Wrong = 6 }, 2, 3, api.ErrRange},
	{func(b *api.PaBank) { b.Questions[1].Wrong = 1 }, 2, 1, api.ErrRange},
	{func(b *api.PaBank) { b.Questions[3].Wrong = math.MaxInt }, 2, 3, api.ErrRange},
	{func(b *api.PaBank) { b.Questions[3].Wrong = math.MinInt }, 2, 3, api.ErrRange},
	// How many are wanted.
	{func(b *api.PaBank) { b.Wanted = []int{0, 0} }, 3, 0, api.ErrRange},
	{func(b *api.PaBank) { b.Wanted = []int{1, 0} }, 3, 1, api.ErrRange},
	{func(b *api.PaBank) { b.Wanted = []int{2, 3} }, 0, 0, api.OK},
	{func(b *api.PaBank) { b.Wanted = []int{3, 3} }, 3, 0, api.ErrRange},
	{func(b *api.PaBank) { b.Wanted = []int{2, 4} }, 3, 1, api.ErrRange},
	{func(b *api.PaBank) { b.Wanted = []int{1, -1} }, 3, 1, api.ErrRange},
	{func(b *api.PaBank) { b.Wanted = []int{1, math.MaxInt} }, 3, 1, api.ErrRange},
	{func(b *api.PaBank) { b.Wanted = []int{math.MinInt, 1} }, 3, 0, api.ErrRange},
	{func(b *api.PaBank) { b.Wanted = []int{1, 2, 1} }, 3, 2, api.ErrRange},
	{func(b *api.PaBank) { b.Wanted = []int{1, 2, 0} }, 3, 2, api.ErrRange},
	{func(b *api.PaBank) { b.Questions[0].Part, b.Questions[1].Part = 1, 1 }, 3, 0, api.ErrRange},
}

// TestCheck checks P6.1, and that all functions return the error of the bank
// first.
func TestCheck(t *testing.T) {
	for i, c := range checkCases {
		b := example()
		c.change(&b)
		if part, at, e := paper.Check(b); part != c.part || at != c.at || e != c.e {
			t.Errorf("%d: Check = %d, %d, %d, not %d, %d, %d", i, part, at, e, c.part, c.at, c.e)
		}
		// What the functions return first of their own errors comes behind it.
		after := func(e api.Errno) api.Errno {
			if c.e != api.OK {
				return c.e
			}
			return e
		}
		if weights, e := paper.Weights(b); e != c.e || e != api.OK && weights != nil {
			t.Errorf("%d: Weights = %v, %d", i, weights, e)
		}
		if many, e := paper.Count(b); e != c.e || e != api.OK && many != 0 {
			t.Errorf("%d: Count = %d, %d", i, many, e)
		}
		if list, e := paper.Nth(b, -1); list != nil || e != after(api.ErrNone) {
			t.Errorf("%d: Nth = %v, %d", i, list, e)
		}
		if number, e := paper.Number(b, nil); number != 0 || e != after(api.ErrForm) {
			t.Errorf("%d: Number = %d, %d", i, number, e)
		}
		if papers, e := paper.Draw(b, api.PaHall{}, nil); papers != nil || e != after(api.ErrRange) {
			t.Errorf("%d: Draw = %v, %d", i, papers, e)
		}
		if seat, e := paper.Accept(b, api.PaHall{}, nil); seat != 0 || e != after(api.ErrRange) {
			t.Errorf("%d: Accept = %d, %d", i, seat, e)
		}
		if span, e := paper.Fair(b, 0); span != (api.Span{}) || e != after(api.ErrRange) {
			t.Errorf("%d: Fair = %v, %d", i, span, e)
		}
	}
}

// TestWeights checks P6.2.
func TestWeights(t *testing.T) {
	if weights, e := paper.Weights(example()); !slices.Equal(weights, []int{200, 500, 300, 600, 400}) || e != api.OK {
		t.Errorf("Weights of B = %v, %d", weights, e)
	}
	for _, c := range []struct{ asked, wrong, want int }{
		{0, 0, 500}, {1, 0, 0}, {1, 1, 1000}, {2, 1, 500}, {3, 1, 333}, {3, 2, 666}, {7, 6, 857}, {1001, 1, 0}, {1000, 1, 1}, {999, 1, 1}, {500, 1, 2}, {501, 1, 1},
		{100000, 0, 0}, {100000, 99, 0}, {100000, 100, 1}, {100000, 99999, 999}, {100000, 100000, 1000},
	} {
		b := example()
		b.Questions[1].Asked, b.Questions[1].Wrong = c.asked, c.wrong
		if weights, e := paper.Weights(b); !slices.Equal(weights, []int{200, c.want, 300, 600, 400}) || e != api.OK {
			t.Errorf("Weights with %d of %d wrong = %v, %d", c.wrong, c.asked, weights, e)
		}
	}
}

// TestHarder checks P6.13: a question that was answered wrong more often has no
// lower weight, and all others have the same.
func TestHarder(t *testing.T) {
	r := rand.New(rand.NewSource(613))
	for range 2000 {
		b := randomBank(r)
		before, e := paper.Weights(b)
		if e != api.OK {
			t.Fatalf("%v: Weights = %d", b, e)
		}
		question := r.Intn(len(b.Questions))
		q := &b.Questions[question]
		if q.Asked == 0 {
			continue
		}
		q.Wrong += r.Intn(q.Asked - q.Wrong + 1)
		after, e := paper.Weights(b)
		if e != api.OK || after[question] < before[question] {
			t.Fatalf("%v: Weights = %v, %d, and were %v", b, after, e, before)
		}
		after[question] = before[question]
		if !slices.Equal(after, before) {
			t.Fatalf("%v: with question %d alone, %v becomes %v", b, question, before, after)
		}
	}
}

package book_test

import (
	"math"
	"math/rand"
	"reflect"
	"slices"
	"strings"
	"testing"

	"bitepoint/api"
	"bitepoint/book"
)

// Learners, cars and lessons of the examples.
const (
	ann, ben  = 0, 1
	mini, van = 0, 1
)

// example is S of the document's examples.
func example() api.BkSchool {
	return api.BkSchool{
		Learners: []string{"ann", "ben"},
		Cars:     []api.BkCar{{Name: "mini", Every: 100, Never: 2}, {Name: "van", Km: 500, Every: 200}},
		Price:    4000,
		Excess:   30000,
		Open:     api.Span{Lo: 8, Hi: 20},
		Terms:    []api.BkTerm{{Before: 48}, {Before: 24, Fee: 500}},
	}
}

// names are different names.
func names(many int) []string {
	var all []string
	for i := range many {
		all = append(all, "n"+string(rune('a'+i)))
	}
	return all
}

// cars are cars with different names.
func cars(many int) []api.BkCar {
	var all []api.BkCar
	for _, name := range names(many) {
		all = append(all, api.BkCar{Name: name, Every: 1})
	}
	return all
}

// terms are the terms of a school that ask for more and more.
func terms(many int) []api.BkTerm {
	var all []api.BkTerm
	for i := range many {
		all = append(all, api.BkTerm{Before: 240 - i, Fee: i})
	}
	return all
}

// cloneSchool is a copy of a school, without shared memory.
func cloneSchool(s api.BkSchool) api.BkSchool {
	s.Learners, s.Cars, s.Terms = slices.Clone(s.Learners), slices.Clone(s.Cars), slices.Clone(s.Terms)
	return s
}

// checkCases are changes of the example, and where its first error is then.
var checkCases = []struct {
	change   func(s *api.BkSchool)
	part, at int
	e        api.Errno
}{
	{func(s *api.BkSchool) {}, 0, 0, api.OK},
	// How many there are.
	{func(s *api.BkSchool) { s.Learners, s.Price = nil, 0 }, 1, 0, api.ErrLong},
	{func(s *api.BkSchool) { s.Learners = names(1) }, 0, 0, api.OK},
	{func(s *api.BkSchool) { s.Learners = names(8) }, 0, 0, api.OK},
	{func(s *api.BkSchool) { s.Learners = names(9) }, 1, 0, api.ErrLong},
	{func(s *api.BkSchool) { s.Learners = make([]string, 9) }, 1, 0, api.ErrLong},
	{func(s *api.BkSchool) { s.Cars, s.Excess = []api.BkCar{}, -1 }, 1, 0, api.ErrLong},
	{func(s *api.BkSchool) { s.Cars = cars(1) }, 0, 0, api.OK},
	{func(s *api.BkSchool) { s.Cars = cars(5) }, 0, 0, api.OK},
	{func(s *api.BkSchool) { s.Cars = cars(6) }, 1, 0, api.ErrLong},
	{func(s *api.BkSchool) { s.Terms = nil }, 0, 0, api.OK},
	{func(s *api.BkSchool) { s.Terms = terms(4) }, 0, 0, api.OK},
	{func(s *api.BkSchool) { s.Terms, s.Open = terms(5), api.Span{Lo: 5, Hi: 5} }, 1, 0, api.ErrLong},
	// Numbers of the school.
	{func(s *api.BkSchool) { s.Price, s.Open = 0, api.Span{} }, 1, 0, api.ErrRange},
	{func(s *api.BkSchool) { s.Price = -1 }, 1, 0, api.ErrRange},
	{func(s *api.BkSchool) { s.Price = 1 }, 0, 0, api.OK},
	{func(s *api.BkSchool) { s.Price = 10000 }, 0, 0, api.OK},
	{func(s *api.BkSchool) { s.Price, s.Learners[0] = 10001, "" }, 1, 0, api.ErrRange},
	{func(s *api.BkSchool) { s.Price = math.MaxInt }, 1, 0, api.ErrRange},
	{func(s *api.BkSchool) { s.Excess = -1 }, 1, 0, api.ErrRange},
	{func(s *api.BkSchool) { s.Excess = 0 }, 0, 0, api.OK},
	{func(s *api.BkSchool) { s.Excess = 10000000 }, 0, 0, api.OK},
	{func(s *api.BkSchool) { s.Excess = 10000001 }, 1, 0, api.ErrRange},
	{func(s *api.BkSchool) { s.Open = api.Span{Lo: -1, Hi: 20} }, 1, 0, api.ErrRange},
	{func(s *api.BkSchool) { s.Open = api.Span{Lo: 8, Hi: 25} }, 1, 0, api.ErrRange},
	{func(s *api.BkSchool) { s.Open = api.Span{Lo: 25, Hi: 24} }, 1, 0, api.ErrRange},
	{func(s *api.BkSchool) { s.Open = api.Span{Lo: 0, Hi: -1} }, 1, 0, api.ErrRange},
	{func(s *api.BkSchool) { s.Open = api.Span{Lo: 0, Hi: 24} }, 0, 0, api.OK},
	{func(s *api.BkSchool) { s.Open = api.Span{Lo: 23, Hi: 24} }, 0, 0, api.OK},
	{func(s *api.BkSchool) { s.Open, s.Learners[0] = api.Span{Lo: 8, Hi: 8}, "" }, 1, 0, api.ErrArg},
	{func(s *api.BkSchool) { s.Open = api.Span{Lo: 20, Hi: 8} }, 1, 0, api.ErrArg},
	// Learners.
	{func(s *api.BkSchool) { s.Learners[0], s.Cars[0].Name = "", "" }, 2, 0, api.ErrForm},
	{func(s *api.BkSchool) { s.Learners[1] = "Ben" }, 2, 1, api.ErrForm},
	{func(s *api.BkSchool) { s.Learners[1] = "1ben" }, 2, 1, api.ErrForm},
	{func(s *api.BkSchool) { s.Learners[1] = strings.Repeat("b", 16) }, 0, 0, api.OK},
	{func(s *api.BkSchool) { s.Learners[1] = strings.Repeat("b", 17) }, 2, 1, api.ErrForm},
	{func(s *api.BkSchool) { s.Learners[1], s.Cars[0].Every = "ann", 0 }, 2, 1, api.ErrTwice},
	{func(s *api.BkSchool) { s.Learners = []string{"ann", "ben", "ann", ""} }, 2, 2, api.ErrTwice},
	{func(s *api.BkSchool) { s.Learners = []string{"ann", "", "ann"} }, 2, 1, api.ErrForm},
	{func(s *api.BkSchool) { s.Learners[0] = "mini" }, 0, 0, api.OK},
	// Cars.
	{func(s *api.BkSchool) { s.Cars[1].Name, s.Cars[1].Km = "Van", -1 }, 3, 1, api.ErrForm},
	{func(s *api.BkSchool) { s.Cars[1].Name, s.Cars[1].Km = "mini", -1 }, 3, 1, api.ErrTwice},
	{func(s *api.BkSchool) { s.Cars[0].Every, s.Cars[1].Name = 0, "" }, 3, 0, api.ErrRange},
	{func(s *api.BkSchool) { s.Cars[0].Km, s.Terms[0].Fee = -1, -1 }, 3, 0, api.ErrRange},
	{func(s *api.BkSchool) { s.Cars[0].Km = 1000000 }, 0, 0, api.OK},
	{func(s *api.BkSchool) { s.Cars[1].Km = 1000001 }, 3, 1, api.ErrRange},
	{func(s *api.BkSchool) { s.Cars[1].Every = 0 }, 3, 1, api.ErrRange},
	{func(s *api.BkSchool) { s.Cars[1].Every = 1 }, 0, 0, api.OK},
	{func(s *api.BkSchool) { s.Cars[1].Every = 1000000 }, 0, 0, api.OK},
	{func(s *api.BkSchool) { s.Cars[1].Every = 1000001 }, 3, 1, api.ErrRange},
	{func(s *api.BkSchool) { s.Cars[1].Never = -1 }, 3, 1, api.ErrRange},
	{func(s *api.BkSchool) { s.Cars[1].Never = 255 }, 0, 0, api.OK},
	{func(s *api.BkSchool) { s.Cars[1].Never = 256 }, 3, 1, api.ErrRange},
	// Terms.
	{func(s *api.BkSchool) { s.Terms[0].Before = -1 }, 4, 0, api.ErrRange},
	{func(s *api.BkSchool) { s.Terms[0].Before = 240 }, 0, 0, api.OK},
	{func(s *api.BkSchool) { s.Terms[0].Before = 241 }, 4, 0, api.ErrRange},
	{func(s *api.BkSchool) { s.Terms[1].Before = 0 }, 0, 0, api.OK},
	{func(s *api.BkSchool) { s.Terms[0].Fee = -1 }, 4, 0, api.ErrRange},
	{func(s *api.BkSchool) { s.Terms[1].Fee = 1000 }, 0, 0, api.OK},
	{func(s *api.BkSchool) { s.Terms[1].Fee = 1001 }, 4, 1, api.ErrRange},
	{func(s *api.BkSchool) { s.Terms[1] = api.BkTerm{Before: 48, Fee: 1001} }, 4, 1, api.ErrRange},
	{func(s *api.BkSchool) { s.Terms[1].Before = 47 }, 0, 0, api.OK},
	{func(s *api.BkSchool) { s.Terms[1].Before = 48 }, 4, 1, api.ErrArg},
	{func(s *api.BkSchool) { s.Terms[1].Before = 49 }, 4, 1, api.ErrArg},
	{func(s *api.BkSchool) { s.Terms[0].Fee = 500 }, 0, 0, api.OK},
	{func(s *api.BkSchool) { s.Terms[0].Fee = 501 }, 4, 1, api.ErrArg},
	{func(s *api.BkSchool) {
		s.Terms = []api.BkTerm{{Before: 5}, {Before: 4, Fee: 1}, {Before: 3}, {Before: -1}}
	}, 4, 2, api.ErrArg},
}

// TestCheck checks P5.1, and that all functions return the error of the school
// first.
func TestCheck(t *testing.T) {
	for i, c := range checkCases {
		s := example()
		c.change(&s)
		if part, at, e := book.Check(s); part != c.part || at != c.at || e != c.e {
			t.Errorf("%d: Check = %d, %d, %d, not %d, %d, %d", i, part, at, e, c.part, c.at, c.e)
		}
		// What the functions return first of their own errors comes behind it.
		wantRange, wantLong := c.e, c.e
		if c.e == api.OK {
			wantRange, wantLong = api.ErrRange, api.ErrLong
		}
		many := make([]api.BkEvent, 61)
		if fee, e := book.Fee(s, 0, -1); fee != 0 || e != wantRange {
			t.Errorf("%d: Fee = %d, %d", i, fee, e)
		}
		if refusals, state, e := book.Run(s, many); refusals != nil || !reflect.DeepEqual(state, api.BkState{}) || e != wantLong {
			t.Errorf("%d: Run = %v, %v, %d", i, refusals, state, e)
		}
		if postings, e := book.Postings(s, many); postings != nil || e != wantLong {
			t.Errorf("%d: Postings = %v, %d", i, postings, e)
		}
		if hour, e := book.First(s, many, -1, -1, -1, 0); hour != 0 || e != wantLong {
			t.Errorf("%d: First = %d, %d", i, hour, e)
		}
	}
}

func TestFee(t *testing.T) {
	for i, c := range []struct {
		change              func(s *api.BkSchool)
		hours, before, want int
		e                   api.Errno
	}{
		{nil, 2, 48, 0, api.OK}, {nil, 2, 28, 4000, api.OK}, {nil, 2, 23, 8000, api.OK},
		{nil, 2, 4800, 0, api.OK}, {nil, 2, 47, 4000, api.OK}, {nil, 2, 24, 4000, api.OK}, {nil, 2, 0, 8000, api.OK},
		{nil, 1, 30, 2000, api.OK}, {nil, 4, 30, 8000, api.OK}, {nil, 4, 0, 16000, api.OK},
		{func(s *api.BkSchool) { s.Terms = nil }, 3, 4800, 12000, api.OK},
		{func(s *api.BkSchool) { s.Terms[1].Before = 0 }, 2, 0, 4000, api.OK},
		{func(s *api.BkSchool) { s.Terms, s.Price = []api.BkTerm{{Fee: 333}}, 1 }, 1, 5, 1, api.OK},
		{func(s *api.BkSchool) { s.Terms, s.Price = []api.BkTerm{{Fee: 333}}, 1 }, 3, 5, 1, api.OK},
		{func(s *api.BkSchool) { s.Terms, s.Price = []api.BkTerm{{Fee: 333}}, 1 }, 4, 5, 2, api.OK},
		{func(s *api.BkSchool) { s.Terms, s.Price = []api.BkTerm{{Fee: 1}}, 1000 }, 1, 5, 1, api.OK},
		{func(s *api.BkSchool) { s.Terms, s.Price = []api.BkTerm{{Fee: 1}}, 1001 }, 1, 5, 2, api.OK},
		{func(s *api.BkSchool) { s.Terms, s.Price = []api.BkTerm{{Fee: 1}}, 999 }, 1, 5, 1, api.OK},
		{func(s *api.BkSchool) { s.Terms, s.Price = []api.BkTerm{{Fee: 1000}}, 10000 }, 4, 5, 40000, api.OK},
		{func(s *api.BkSchool) {
			s.Terms = []api.BkTerm{{Before: 9, Fee: 7}, {Before: 8, Fee: 7}, {Before: 7, Fee: 9}}
		}, 1, 7, 36, api.OK},
		{nil, 0, 5, 0, api.ErrRange}, {nil, 5, 5, 0, api.ErrRange}, {nil, -1, 5, 0, api.ErrRange}, {nil, math.MaxInt, 5, 0, api.ErrRange}, {nil, math.MinInt, 5, 0, api.ErrRange},
		{nil, 1, -1, 0, api.ErrRange}, {nil, 1, 4801, 0, api.ErrRange}, {nil, 1, math.MaxInt, 0, api.ErrRange}, {nil, 1, math.MinInt, 0, api.ErrRange},
	} {
		s := example()
		if c.change != nil {
			c.change(&s)
		}
		if fee, e := book.Fee(s, c.hours, c.before); fee != c.want || e != c.e {
			t.Errorf("%d: Fee = %d, %d, not %d, %d", i, fee, e, c.want, c.e)
		}
	}
}

// feeByTheDocument is the fee of a lesson, literally: the least number that
// is, a thousand times, not below the part of the price.
func feeByTheDocument(s api.BkSchool, hours, before int) int {
	part := 1000
	for _, term := range slices.Backward(s.Terms) {
		if before >= term.Before {
			part = term.Fee
		}
	}
	fee := hours * s.Price * part / 1000
	for fee*1000 < hours*s.Price*part {
		fee++
	}
	return fee
}

// TestFees checks P5.2 and P5.10 for all hours ahead up to the greatest term.
func TestFees(t *testing.T) {
	r := rand.New(rand.NewSource(52))
	for range 200 {
		s := randomSchool(r)
		for hours := 1; hours <= 4; hours++ {
			last := hours * s.Price
			for before := 0; before <= 250; before++ {
				fee, e := book.Fee(s, hours, before)
				if fee != feeByTheDocument(s, hours, before) || e != api.OK {
					t.Fatalf("%v: Fee of %d, %d = %d, %d", s, hours, before, fee, e)
				}
				if fee < 0 || fee > last {
					t.Fatalf("%v: Fee of %d, %d = %d, more than %d", s, hours, before, fee, last)
				}
				last = fee
			}
		}
	}
}

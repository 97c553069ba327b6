package paper_test

import (
	"math"
	"math/rand"
	"slices"
	"testing"

	"bitepoint/api"
	"bitepoint/paper"
)

// hallCases are halls, and whether their numbers are as stated.
var hallCases = []struct {
	h     api.PaHall
	valid bool
}{
	{api.PaHall{Rows: 1, Seats: 1}, true}, {api.PaHall{Rows: 5, Seats: 6, Common: 16}, true}, {api.PaHall{Rows: 1, Seats: 6, Common: 1}, true}, {api.PaHall{Rows: 5, Seats: 1, Common: 15}, true},
	{api.PaHall{Rows: 0, Seats: 1}, false}, {api.PaHall{Rows: 6, Seats: 1}, false}, {api.PaHall{Rows: -1, Seats: -1}, false}, {api.PaHall{Rows: math.MaxInt, Seats: 2}, false}, {api.PaHall{Rows: math.MinInt, Seats: 1}, false},
	{api.PaHall{Rows: 1, Seats: 0}, false}, {api.PaHall{Rows: 1, Seats: 7}, false}, {api.PaHall{Rows: 1, Seats: math.MaxInt}, false}, {api.PaHall{Rows: 1, Seats: math.MinInt}, false},
	{api.PaHall{Rows: 1, Seats: 1, Common: -1}, false}, {api.PaHall{Rows: 1, Seats: 1, Common: 17}, false}, {api.PaHall{Rows: 1, Seats: 1, Common: math.MaxInt}, false}, {api.PaHall{Rows: 1, Seats: 1, Common: math.MinInt}, false},
	{api.PaHall{}, false},
}

// TestHallErrors checks the first errors of Draw and Accept: those of the hall,
// and then how many numbers, or papers, there are.
func TestHallErrors(t *testing.T) {
	for i, c := range hallCases {
		for _, many := range []int{0, 1, 5, 6, 7, 29, 30, 31, 36} {
			numbers := slices.Repeat([]int{-1}, many)
			want, wantOfPapers := api.ErrRange, api.ErrRange
			switch {
			case c.valid && many != c.h.Rows*c.h.Seats:
				want, wantOfPapers = api.ErrLong, api.ErrLong
			case c.valid:
				wantOfPapers = api.ErrForm
			}
			if papers, e := paper.Draw(example(), c.h, numbers); papers != nil || e != want {
				t.Errorf("%d: Draw with %d numbers = %v, %d", i, many, papers, e)
			}
			if seat, e := paper.Accept(example(), c.h, make([][]int, many)); seat != 0 || e != wantOfPapers {
				t.Errorf("%d: Accept with %d papers = %d, %d", i, many, seat, e)
			}
		}
	}
}

// TestDraw checks P6.4.
func TestDraw(t *testing.T) {
	p := examplePapers
	none := example()
	none.Level = api.Span{Lo: 1101, Hi: 1199}
	for i, c := range []struct {
		b       api.PaBank
		h       api.PaHall
		numbers []int
		want    [][]int
		e       api.Errno
	}{
		{example(), room(), []int{0, 0, 0}, [][]int{p[0], p[2], p[0]}, api.OK},
		{example(), api.PaHall{Rows: 1, Seats: 3}, []int{0, 0, 0}, nil, api.ErrDown},
		// Those that have two questions in common can be neighbours, and each one of itself.
		{example(), api.PaHall{Rows: 1, Seats: 3, Common: 2}, []int{0, 0, 0}, [][]int{p[0], p[1], p[0]}, api.OK},
		{example(), api.PaHall{Rows: 1, Seats: 3, Common: 3}, []int{0, 0, 0}, [][]int{p[0], p[0], p[0]}, api.OK},
		{example(), api.PaHall{Rows: 1, Seats: 1}, []int{2}, [][]int{p[2]}, api.OK},
		// Numbers are taken modulo the number of papers, and behind the last paper comes the first one.
		{example(), room(), []int{1, 1, 1}, [][]int{p[1], p[2], p[1]}, api.OK},
		{example(), room(), []int{2, 2, 2}, [][]int{p[2], p[0], p[2]}, api.OK},
		{example(), room(), []int{5, 4, 3}, [][]int{p[2], p[1], p[2]}, api.OK},
		{example(), api.PaHall{Rows: 1, Seats: 1}, []int{1000000000}, [][]int{p[1]}, api.OK},
		// Seats of two rows: those across are no neighbours, nor are the last one of a row and the first one of the next.
		{example(), api.PaHall{Rows: 2, Seats: 2, Common: 1}, []int{0, 0, 0, 0}, [][]int{p[0], p[2], p[2], p[0]}, api.OK},
		{example(), api.PaHall{Rows: 3, Seats: 1, Common: 1}, []int{0, 1, 1}, [][]int{p[0], p[2], p[1]}, api.OK},
		{example(), api.PaHall{Rows: 2, Seats: 3, Common: 1}, []int{2, 0, 1, 1, 1, 0}, [][]int{p[2], p[0], p[2], p[1], p[2], p[0]}, api.OK},
		// The number that is drawn decides, not the seat: both neighbours of the last one leave no paper.
		{example(), api.PaHall{Rows: 2, Seats: 2, Common: 2}, []int{0, 0, 2, 0}, [][]int{p[0], p[1], p[2], p[0]}, api.OK},
		{example(), api.PaHall{Rows: 2, Seats: 2, Common: 0}, []int{0, 0, 0, 0}, nil, api.ErrDown},
		{bank([]int{3}, []int{1}), api.PaHall{Rows: 2, Seats: 2}, []int{0, 1, 2, 1}, [][]int{{0}, {1}, {2}, {0}}, api.OK},
		{bank([]int{2}, []int{1}), api.PaHall{Rows: 2, Seats: 2}, []int{0, 0, 0, 0}, [][]int{{0}, {1}, {1}, {0}}, api.OK},
		{bank([]int{1}, []int{1}), api.PaHall{Rows: 1, Seats: 1}, []int{7}, [][]int{{0}}, api.OK},
		{bank([]int{1}, []int{1}), api.PaHall{Rows: 1, Seats: 2}, []int{0, 0}, nil, api.ErrDown},
		{bank([]int{1}, []int{1}), api.PaHall{Rows: 2, Seats: 1}, []int{0, 0}, nil, api.ErrDown},
		{bank([]int{1}, []int{1}), api.PaHall{Rows: 1, Seats: 2, Common: 1}, []int{0, 0}, [][]int{{0}, {0}}, api.OK},
		// Errors, the first one first.
		{example(), room(), []int{0, 0, 1000000001}, nil, api.ErrRange},
		{example(), room(), []int{-1, 0, 0}, nil, api.ErrRange},
		{example(), room(), []int{0, math.MaxInt, 0}, nil, api.ErrRange},
		{example(), room(), []int{0, math.MinInt, 0}, nil, api.ErrRange},
		{none, room(), []int{0, 0, -1}, nil, api.ErrRange},
		{none, room(), []int{0, 0, 0}, nil, api.ErrNone},
		{none, room(), []int{0, 0}, nil, api.ErrLong},
		{example(), api.PaHall{Rows: 1, Seats: 3}, []int{0, 0, -1}, nil, api.ErrRange},
	} {
		if papers, e := paper.Draw(c.b, c.h, c.numbers); !samePapers(papers, c.want) || e != c.e {
			t.Errorf("%d: Draw = %v, %d, not %v, %d", i, papers, e, c.want, c.e)
		}
	}
}

// TestAccept checks P6.5.
func TestAccept(t *testing.T) {
	p := examplePapers
	none := example()
	none.Level = api.Span{}
	for i, c := range []struct {
		b      api.PaBank
		h      api.PaHall
		papers [][]int
		seat   int
		e      api.Errno
	}{
		{example(), room(), [][]int{p[0], p[2], p[0]}, 0, api.OK},
		{example(), room(), [][]int{p[0], p[2], p[1]}, 0, api.OK},
		{example(), room(), [][]int{p[0], p[1], p[2]}, 1, api.ErrTwice},
		{example(), room(), [][]int{p[2], p[0], p[0]}, 2, api.ErrTwice},
		{example(), room(), [][]int{p[0], p[0], nil}, 1, api.ErrTwice},
		{example(), room(), [][]int{p[0], nil, nil}, 1, api.ErrForm},
		{example(), room(), [][]int{{}, p[0], p[0]}, 0, api.ErrForm},
		{example(), room(), [][]int{p[0], {0, 2, 3, 3}, p[0]}, 1, api.ErrForm},
		{example(), room(), [][]int{p[0], {0, 2, 4}, p[0]}, 1, api.ErrForm},
		{example(), room(), [][]int{p[2], p[0], {0, 1, 2, 3, 4, 5}}, 2, api.ErrForm},
		{example(), room(), [][]int{p[2], p[0], {2, 4, 1}}, 2, api.ErrForm},
		{example(), room(), [][]int{{math.MinInt}, {math.MaxInt}, {-1}}, 0, api.ErrForm},
		{example(), api.PaHall{Rows: 1, Seats: 3, Common: 2}, [][]int{p[0], p[1], p[0]}, 0, api.OK},
		{example(), api.PaHall{Rows: 1, Seats: 3, Common: 2}, [][]int{p[0], p[0], p[1]}, 1, api.ErrTwice},
		{example(), api.PaHall{Rows: 1, Seats: 3, Common: 3}, [][]int{p[1], p[1], p[1]}, 0, api.OK},
		{example(), api.PaHall{Rows: 1, Seats: 3}, [][]int{p[1], p[2], p[1]}, 1, api.ErrTwice},
		{example(), api.PaHall{Rows: 1, Seats: 1}, [][]int{p[1]}, 0, api.OK},
		{example(), api.PaHall{Rows: 2, Seats: 2, Common: 1}, [][]int{p[0], p[2], p[2], p[0]}, 0, api.OK},
		{example(), api.PaHall{Rows: 2, Seats: 2, Common: 1}, [][]int{p[0], p[2], p[2], p[2]}, 3, api.ErrTwice},
		{example(), api.PaHall{Rows: 2, Seats: 2, Common: 1}, [][]int{p[0], p[2], p[1], p[2]}, 2, api.ErrTwice},
		// The last seat has neighbours in the row before it alone, or in its own row alone.
		{bank([]int{3}, []int{1}), api.PaHall{Rows: 2, Seats: 2}, [][]int{{0}, {1}, {2}, {1}}, 3, api.ErrTwice},
		{bank([]int{3}, []int{1}), api.PaHall{Rows: 2, Seats: 2}, [][]int{{0}, {1}, {2}, {2}}, 3, api.ErrTwice},
		{bank([]int{3}, []int{1}), api.PaHall{Rows: 2, Seats: 2}, [][]int{{0}, {1}, {2}, {0}}, 0, api.OK},
		{bank([]int{3}, []int{1}), api.PaHall{Rows: 2, Seats: 2}, [][]int{{0}, {1}, {1}, {2}}, 0, api.OK},
		{bank([]int{3}, []int{1}), api.PaHall{Rows: 3, Seats: 1}, [][]int{{0}, {1}, {1}}, 2, api.ErrTwice},
		{bank([]int{3}, []int{1}), api.PaHall{Rows: 3, Seats: 1}, [][]int{{0}, {1}, {0}}, 0, api.OK},
		{bank([]int{1}, []int{1}), api.PaHall{Rows: 1, Seats: 2}, [][]int{{0}, {0}}, 1, api.ErrTwice},
		{none, api.PaHall{Rows: 1, Seats: 1}, [][]int{p[0]}, 0, api.ErrForm},
	} {
		if seat, e := paper.Accept(c.b, c.h, c.papers); seat != c.seat || e != c.e {
			t.Errorf("%d: Accept = %d, %d, not %d, %d", i, seat, e, c.seat, c.e)
		}
	}
}

// TestDrawsOfAnyBank checks P6.4 and P6.5 against the document's words, and
// P6.9.
func TestDrawsOfAnyBank(t *testing.T) {
	r := rand.New(rand.NewSource(69))
	many := map[api.Errno]int{}
	for range 3000 {
		b := randomBank(r)
		h := randomHall(r, b)
		numbers := randomNumbers(r, h)
		papers := papersOf(b)
		want, wantError := drawOf(papers, h, numbers)
		is, e := paper.Draw(b, h, numbers)
		if !samePapers(is, want) || e != wantError {
			t.Fatalf("%v, %v, %v: Draw = %v, %d, not %v, %d", b, h, numbers, is, e, want, wantError)
		}
		many[e]++
		greater := slices.Clone(numbers)
		seat := r.Intn(len(numbers))
		greater[seat] += len(papers)
		if again, f := paper.Draw(b, h, greater); greater[seat] <= 1000000000 && (!samePapers(again, is) || f != e) {
			t.Fatalf("%v, %v, %v: Draw = %v, %d, not %v, %d", b, h, greater, again, f, is, e)
		}
		if e != api.OK {
			continue
		}
		if seat, e := paper.Accept(b, h, is); seat != 0 || e != api.OK {
			t.Fatalf("%v, %v: Accept of %v = %d, %d", b, h, is, seat, e)
		}
		seat = r.Intn(len(is))
		is[seat] = randomList(r, b)
		wantSeat, wantError := acceptOf(b, h, is)
		if seat, e := paper.Accept(b, h, is); seat != wantSeat || e != wantError {
			t.Fatalf("%v, %v: Accept of %v = %d, %d, not %d, %d", b, h, is, seat, e, wantSeat, wantError)
		}
		many[100+wantError]++
	}
	for _, e := range []api.Errno{api.OK, api.ErrNone, api.ErrDown, 100, 100 + api.ErrForm, 100 + api.ErrTwice} {
		if many[e] < 100 {
			t.Errorf("only %d with %d", many[e], e)
		}
	}
}

// TestFirstThatFits checks P6.10, with Nth and Number alone: any paper between
// that of a seat and that with its number is too much alike with that of a
// neighbour before it.
func TestFirstThatFits(t *testing.T) {
	r := rand.New(rand.NewSource(610))
	passed := 0
	for range 1000 {
		b := randomBank(r)
		h := randomHall(r, b)
		numbers := randomNumbers(r, h)
		drawn, e := paper.Draw(b, h, numbers)
		if e != api.OK {
			continue
		}
		papers := all(t, b)
		for seat, list := range drawn {
			until, e := paper.Number(b, list)
			if e != api.OK {
				t.Fatalf("%v: Number of %v = %d", b, list, e)
			}
			if isAlike(h, drawn[:seat], seat, list) {
				t.Fatalf("%v, %v, %v: the seat %d of %v is too much alike", b, h, numbers, seat, drawn)
			}
			for at := numbers[seat] % len(papers); at != until; at = (at + 1) % len(papers) {
				passed++
				if !isAlike(h, drawn[:seat], seat, papers[at]) {
					t.Fatalf("%v, %v, %v: the seat %d of %v could have %v", b, h, numbers, seat, drawn, papers[at])
				}
			}
		}
	}
	if passed < 1000 {
		t.Errorf("only %d papers were passed over", passed)
	}
}

// TestOwnNumbers checks P6.12: if all questions can be common, each seat gets
// the paper with its own number.
func TestOwnNumbers(t *testing.T) {
	r := rand.New(rand.NewSource(6122))
	for range 500 {
		b := randomBank(r)
		h := randomHall(r, b)
		h.Common = 16
		numbers := randomNumbers(r, h)
		papers := all(t, b)
		drawn, e := paper.Draw(b, h, numbers)
		if len(papers) == 0 {
			if drawn != nil || e != api.ErrNone {
				t.Fatalf("%v: Draw = %v, %d", b, drawn, e)
			}
			continue
		}
		var want [][]int
		for _, number := range numbers {
			want = append(want, papers[number%len(papers)])
		}
		if !samePapers(drawn, want) || e != api.OK {
			t.Fatalf("%v, %v, %v: Draw = %v, %d, not %v", b, h, numbers, drawn, e, want)
		}
	}
}

// TestFullHall checks P6.4, P6.9 and P6.10 for the greatest hall and bank.
func TestFullHall(t *testing.T) {
	b := bank([]int{16}, []int{8})
	h := api.PaHall{Rows: 5, Seats: 6, Common: 0}
	numbers := make([]int, 30)
	drawn, e := paper.Draw(b, h, numbers)
	if len(drawn) != 30 || e != api.OK {
		t.Fatalf("Draw = %v, %d", drawn, e)
	}
	for seat, list := range drawn {
		want := []int{0, 1, 2, 3, 4, 5, 6, 7}
		if (seat/6+seat%6)%2 == 1 {
			want = []int{8, 9, 10, 11, 12, 13, 14, 15}
		}
		if !slices.Equal(list, want) {
			t.Errorf("the seat %d has %v", seat, list)
		}
	}
	if seat, e := paper.Accept(b, h, drawn); seat != 0 || e != api.OK {
		t.Errorf("Accept = %d, %d", seat, e)
	}
	drawn[29] = drawn[28]
	if seat, e := paper.Accept(b, h, drawn); seat != 29 || e != api.ErrTwice {
		t.Errorf("Accept = %d, %d", seat, e)
	}
}

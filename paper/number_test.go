package paper_test

import (
	"math"
	"math/rand"
	"slices"
	"testing"

	"bitepoint/api"
	"bitepoint/paper"
)

// examplePapers are the papers of the example.
var examplePapers = [][]int{{0, 2, 3}, {0, 3, 4}, {1, 2, 4}}

// TestCount checks P6.2.
func TestCount(t *testing.T) {
	withLevel := func(lo, hi int) api.PaBank {
		b := example()
		b.Level = api.Span{Lo: lo, Hi: hi}
		return b
	}
	hard := bank([]int{16}, []int{16})
	for i := range hard.Questions {
		hard.Questions[i].Asked, hard.Questions[i].Wrong = 1, 1
	}
	hard.Level.Lo = 16000
	for i, c := range []struct {
		b    api.PaBank
		want int
	}{
		// The levels of all lists with one question and two are 900, 1100, 1200, 1200, 1400, 1500.
		{example(), 3}, {withLevel(0, 16000), 6}, {withLevel(900, 900), 1}, {withLevel(901, 1099), 0}, {withLevel(1101, 1199), 0}, {withLevel(1200, 1200), 2}, {withLevel(1100, 1400), 4}, {withLevel(1101, 1399), 2}, {withLevel(1501, 16000), 0}, {withLevel(0, 899), 0}, {withLevel(0, 0), 0},
		{bank([]int{1}, []int{1}), 1}, {bank([]int{16}, []int{1}), 16}, {bank([]int{16}, []int{8}), 12870}, {bank([]int{16}, []int{15}), 16}, {bank([]int{16}, []int{16}), 1},
		{bank([]int{4, 4, 4, 4}, []int{2, 2, 2, 2}), 1296}, {bank([]int{1, 2, 3, 10}, []int{1, 1, 1, 5}), 1512}, {bank([]int{8, 8}, []int{4, 4}), 4900}, {hard, 1},
	} {
		if many, e := paper.Count(c.b); many != c.want || e != api.OK {
			t.Errorf("%d: Count = %d, %d, not %d", i, many, e, c.want)
		}
	}
}

// TestNth checks P6.3.
func TestNth(t *testing.T) {
	for number, want := range examplePapers {
		if list, e := paper.Nth(example(), number); !slices.Equal(list, want) || e != api.OK {
			t.Errorf("Nth of %d = %v, %d", number, list, e)
		}
	}
	for _, number := range []int{-1, 3, 4, math.MinInt, math.MaxInt} {
		if list, e := paper.Nth(example(), number); list != nil || e != api.ErrNone {
			t.Errorf("Nth of %d = %v, %d", number, list, e)
		}
	}
	none := example()
	none.Level = api.Span{}
	if list, e := paper.Nth(none, 0); list != nil || e != api.ErrNone {
		t.Errorf("Nth of a bank without papers = %v, %d", list, e)
	}
	b := bank([]int{16}, []int{8})
	for number, want := range map[int][]int{0: {0, 1, 2, 3, 4, 5, 6, 7}, 1: {0, 1, 2, 3, 4, 5, 6, 8}, 6434: {0, 9, 10, 11, 12, 13, 14, 15}, 6435: {1, 2, 3, 4, 5, 6, 7, 8}, 12869: {8, 9, 10, 11, 12, 13, 14, 15}} {
		if list, e := paper.Nth(b, number); !slices.Equal(list, want) || e != api.OK {
			t.Errorf("Nth of %d = %v, %d", number, list, e)
		}
		if n, e := paper.Number(b, want); n != number || e != api.OK {
			t.Errorf("Number of %v = %d, %d", want, n, e)
		}
	}
}

// TestNumber checks P6.3.
func TestNumber(t *testing.T) {
	for number, list := range examplePapers {
		if n, e := paper.Number(example(), list); n != number || e != api.OK {
			t.Errorf("Number of %v = %d, %d", list, n, e)
		}
	}
	for _, list := range [][]int{
		nil, {}, {0}, {0, 2}, {2, 3}, {0, 1}, {0, 1, 2}, {0, 1, 2, 3}, {2, 3, 4}, {0, 2, 3, 4}, {0, 2, 3, 3}, {0, 0, 2, 3}, {0, 1, 2, 3, 4},
		{0, 4, 4}, {0, 0, 4}, {0, 3, 2}, {2, 0, 3}, {2, 3, 0}, {3, 2, 0}, {0, 2, 3, 0}, {0, 2, 3, 0, 2, 3},
		{0, 2, 4}, {1, 2, 3}, {1, 3, 4},
		{-1, 2, 3}, {0, 2, 5}, {0, 2, -1}, {0, 2, 3, 5}, {-1, 0, 2, 3}, {0, 2, math.MaxInt}, {math.MinInt, 2, 3}, {0, math.MaxInt, 3}, {0, math.MinInt, 3},
		make([]int, 100),
	} {
		if n, e := paper.Number(example(), list); n != 0 || e != api.ErrForm {
			t.Errorf("Number of %v = %d, %d", list, n, e)
		}
	}
}

// TestPapersOfAnyBank checks P6.2 and P6.3 against all sets of questions, and
// with them P6.7 and P6.8: just those that have all that a paper has are
// numbered, in their order.
func TestPapersOfAnyBank(t *testing.T) {
	r := rand.New(rand.NewSource(68))
	empty, many := 0, 0
	for range 400 {
		b := randomBank(r)
		for i, q := range b.Questions {
			if weights, e := paper.Weights(b); len(weights) != len(b.Questions) || weights[i] != weightByTheDocument(q) || e != api.OK {
				t.Fatalf("%v: Weights = %v, %d", b, weights, e)
			}
		}
		want, is := papersOf(b), all(t, b)
		if !samePapers(want, is) {
			t.Fatalf("%v: the papers are %v, not %v", b, is, want)
		}
		if list, e := paper.Nth(b, len(want)); list != nil || e != api.ErrNone {
			t.Fatalf("%v: Nth of %d = %v, %d", b, len(want), list, e)
		}
		for number, list := range want {
			if n, e := paper.Number(b, list); n != number || e != api.OK {
				t.Fatalf("%v: Number of %v = %d, %d, not %d", b, list, n, e, number)
			}
		}
		if len(want) == 0 {
			empty++
		}
		if len(want) > 10 {
			many++
		}
	}
	if empty < 10 || many < 50 {
		t.Errorf("only %d banks have no papers, and %d more than 10", empty, many)
	}
}

// TestCovered checks P6.7 and P6.8 for great banks, with Nth and Number alone.
func TestCovered(t *testing.T) {
	r := rand.New(rand.NewSource(67))
	for i, c := range []struct {
		there, wanted []int
		apart         int
	}{{[]int{16}, []int{8}, 10}, {[]int{8, 8}, []int{4, 5}, 20}, {[]int{4, 4, 4, 4}, []int{2, 2, 2, 2}, 50}} {
		b := bank(c.there, c.wanted)
		for at := range b.Questions {
			b.Questions[at].Asked = 1 + r.Intn(100000)
			b.Questions[at].Wrong = r.Intn(b.Questions[at].Asked + 1)
		}
		middle := levelOf(b, randomChoice(r, b))
		b.Level = api.Span{Lo: middle - c.apart, Hi: middle + c.apart}
		papers := all(t, b)
		if len(papers) < 20 {
			t.Errorf("%d: only %d papers", i, len(papers))
		}
		for number, list := range papers {
			if !isPaper(b, list) {
				t.Fatalf("%v: Nth of %d = %v", b, number, list)
			}
			if number > 0 && slices.Compare(papers[number-1], list) >= 0 {
				t.Fatalf("%v: Nth of %d = %v comes behind %v", b, number, list, papers[number-1])
			}
			if n, e := paper.Number(b, list); n != number || e != api.OK {
				t.Fatalf("%v: Number of %v = %d, %d, not %d", b, list, n, e, number)
			}
		}
	}
}

// TestAnyListIsAPaper checks P6.8: of any lists, also of those that are nearly
// papers, Number tells which ones are.
func TestAnyListIsAPaper(t *testing.T) {
	r := rand.New(rand.NewSource(83))
	papers, others := 0, 0
	for range 20000 {
		b := randomBank(r)
		list := randomList(r, b)
		number, e := paper.Number(b, list)
		if !isPaper(b, list) {
			others++
			if number != 0 || e != api.ErrForm {
				t.Fatalf("%v: Number of %v = %d, %d", b, list, number, e)
			}
			continue
		}
		papers++
		if again, f := paper.Nth(b, number); !slices.Equal(again, list) || e != api.OK || f != api.OK {
			t.Fatalf("%v: Number of %v = %d, %d; Nth of it = %v, %d", b, list, number, e, again, f)
		}
	}
	if papers < 2000 || others < 2000 {
		t.Errorf("only %d papers, and %d other lists", papers, others)
	}
}

// TestWider checks P6.12: with a wider level no paper is lost.
func TestWider(t *testing.T) {
	r := rand.New(rand.NewSource(612))
	more := 0
	for range 500 {
		b := randomBank(r)
		wide := cloneBank(b)
		wide.Level.Lo -= r.Intn(min(wide.Level.Lo, 300) + 1)
		wide.Level.Hi += r.Intn(min(16000-wide.Level.Hi, 300) + 1)
		papers := all(t, wide)
		for _, list := range all(t, b) {
			if !slices.ContainsFunc(papers, func(other []int) bool { return slices.Equal(other, list) }) {
				t.Fatalf("%v: %v is lost at %v", b, list, wide.Level)
			}
		}
		if many, e := paper.Count(b); e == api.OK && many < len(papers) {
			more++
		}
	}
	if more < 50 {
		t.Errorf("only %d banks have more papers at a wider level", more)
	}
}

package paper_test

import (
	"math"
	"math/rand"
	"testing"

	"bitepoint/api"
	"bitepoint/paper"
)

// weighing is a bank with a question of each weight, out of which each paper
// has just one.
func weighing(weights ...int) api.PaBank {
	b := bank([]int{len(weights)}, []int{1})
	for i, weight := range weights {
		b.Questions[i].Asked, b.Questions[i].Wrong = 1000, weight
	}
	return b
}

// TestFair checks P6.6.
func TestFair(t *testing.T) {
	none := example()
	none.Level = api.Span{}
	for i, c := range []struct {
		b    api.PaBank
		many int
		want api.Span
		e    api.Errno
	}{
		{example(), 1, api.Span{Lo: 1100, Hi: 1100}, api.OK}, {example(), 2, api.Span{Lo: 1200, Hi: 1200}, api.OK}, {example(), 3, api.Span{Lo: 1100, Hi: 1200}, api.OK},
		{example(), 4, api.Span{}, api.ErrDown}, {example(), math.MaxInt, api.Span{}, api.ErrDown},
		{example(), 0, api.Span{}, api.ErrRange}, {example(), -1, api.Span{}, api.ErrRange}, {example(), math.MinInt, api.Span{}, api.ErrRange},
		{none, 0, api.Span{}, api.ErrRange}, {none, 1, api.Span{}, api.ErrDown},
		// In any order; of several ranges the lowest one.
		{weighing(900, 100, 500, 300), 1, api.Span{Lo: 100, Hi: 100}, api.OK}, {weighing(900, 100, 500, 300), 2, api.Span{Lo: 100, Hi: 300}, api.OK}, {weighing(900, 100, 500, 300), 3, api.Span{Lo: 100, Hi: 500}, api.OK}, {weighing(900, 100, 500, 300), 4, api.Span{Lo: 100, Hi: 900}, api.OK},
		{weighing(10, 30, 49, 70), 2, api.Span{Lo: 30, Hi: 49}, api.OK}, {weighing(10, 30, 51, 70), 2, api.Span{Lo: 51, Hi: 70}, api.OK}, {weighing(0, 20, 39, 59, 79), 3, api.Span{Lo: 0, Hi: 39}, api.OK}, {weighing(0, 20, 40, 59, 79), 3, api.Span{Lo: 20, Hi: 59}, api.OK},
		{weighing(7, 7, 8, 8, 8), 2, api.Span{Lo: 7, Hi: 7}, api.OK}, {weighing(7, 7, 8, 8, 8), 3, api.Span{Lo: 8, Hi: 8}, api.OK}, {weighing(7, 7, 8, 8, 8), 4, api.Span{Lo: 7, Hi: 8}, api.OK}, {weighing(7, 7, 8, 8, 8), 6, api.Span{}, api.ErrDown},
		{weighing(0), 1, api.Span{}, api.OK}, {weighing(1000), 1, api.Span{Lo: 1000, Hi: 1000}, api.OK},
		{bank([]int{16}, []int{8}), 12870, api.Span{Lo: 4000, Hi: 4000}, api.OK}, {bank([]int{16}, []int{8}), 12871, api.Span{}, api.ErrDown},
	} {
		if span, e := paper.Fair(c.b, c.many); span != c.want || e != c.e {
			t.Errorf("%d: Fair of %d = %v, %d, not %v, %d", i, c.many, span, e, c.want, c.e)
		}
	}
	// What is not in the level is not looked at.
	b := weighing(0, 1, 100, 200, 299, 300)
	b.Level = api.Span{Lo: 100, Hi: 298}
	if span, e := paper.Fair(b, 2); span != (api.Span{Lo: 100, Hi: 200}) || e != api.OK {
		t.Errorf("Fair within a level = %v, %d", span, e)
	}
}

// TestFairOfAnyBank checks P6.6 and P6.11: the range is the best one of all
// that are from the level of a paper to that of a paper, and is no narrower
// with more papers.
func TestFairOfAnyBank(t *testing.T) {
	r := rand.New(rand.NewSource(611))
	wider := 0
	for range 300 {
		b := randomBank(r)
		papers := papersOf(b)
		if len(papers) > 100 {
			continue
		}
		last := 0
		for many := 1; many <= len(papers)+1; many++ {
			want, wantError := fairOf(b, papers, many)
			span, e := paper.Fair(b, many)
			if span != want || e != wantError {
				t.Fatalf("%v: Fair of %d = %v, %d, not %v, %d", b, many, span, e, want, wantError)
			}
			if e != api.OK {
				continue
			}
			if span.Hi-span.Lo < last {
				t.Fatalf("%v: Fair of %d = %v is narrower than with less", b, many, span)
			}
			if span.Hi-span.Lo > last {
				wider++
			}
			last = span.Hi - span.Lo
		}
	}
	if wider < 300 {
		t.Errorf("only %d ranges are wider", wider)
	}
}

// TestNoNarrowerRange checks P6.11 with Nth alone, for all ranges there can be,
// also those whose ends are no levels of papers.
func TestNoNarrowerRange(t *testing.T) {
	r := rand.New(rand.NewSource(6112))
	for range 60 {
		var weights []int
		for range 3 + r.Intn(12) {
			weights = append(weights, r.Intn(60))
		}
		b := weighing(weights...)
		b.Level = api.Span{Lo: r.Intn(10), Hi: 50 + r.Intn(10)}
		var levels []int
		for _, list := range all(t, b) {
			levels = append(levels, levelOf(b, list))
		}
		for many := 1; many <= len(levels); many++ {
			span, e := paper.Fair(b, many)
			if e != api.OK || inside(levels, span.Lo, span.Hi) < many || inside(levels, span.Lo, span.Lo) < 1 || inside(levels, span.Hi, span.Hi) < 1 {
				t.Fatalf("%v: Fair of %d = %v, %d", levels, many, span, e)
			}
			width := span.Hi - span.Lo
			for lo := range 61 {
				if inside(levels, lo, lo+width-1) >= many || lo < span.Lo && inside(levels, lo, lo+width) >= many {
					t.Fatalf("%v: Fair of %d = %v, but from %d on there are as many", levels, many, span, lo)
				}
			}
		}
	}
}

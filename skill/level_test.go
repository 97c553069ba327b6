package skill_test

import (
	"math"
	"testing"

	"bitepoint/api"
	"bitepoint/skill"
)

// biases are ranges in which marks can be above levels.
var biases = []api.Span{
	span(-20, 0), span(0, 30), span(0, 0), span(5, 5), span(-5, -5), span(1, 7), span(-7, -1), span(-3, 4),
	span(-300, 300), span(300, 300), span(-300, -300), span(250, 300), span(-300, -250), span(-1, 0), span(0, 1),
}

// biased is a school with one instructor.
func biased(bias api.Span) api.SkSchool {
	s := flat(1, 1)
	s.Instructors[0].Bias = bias
	return s
}

// markOf is the mark for a level with a number of the bias.
func markOf(level, bias int) int {
	switch mark := level + bias; {
	case mark < 0:
		return 0
	case mark > 1000:
		return 1000
	default:
		return mark
	}
}

// widen is a range with one more number.
func widen(s api.Span, n int) api.Span { return span(min(s.Lo, n), max(s.Hi, n)) }

// marksOf is, for each level, the range of the marks for it, and for each mark
// that can be given the range of levels behind it.
func marksOf(bias api.Span) (marks, levels map[int]api.Span) {
	marks, levels = map[int]api.Span{}, map[int]api.Span{}
	keep := func(ranges map[int]api.Span, key, n int) {
		old, is := ranges[key]
		if !is {
			old = span(n, n)
		}
		ranges[key] = widen(old, n)
	}
	for level := range api.All + 1 {
		for b := bias.Lo; b <= bias.Hi; b++ {
			mark := markOf(level, b)
			keep(marks, level, mark)
			keep(levels, mark, level)
		}
	}
	return marks, levels
}

func TestMarksAndBehind(t *testing.T) {
	s := example()
	for _, c := range []struct{ instructor, level, lo, hi int }{
		{0, 500, 480, 500}, {1, 990, 990, 1000}, {0, 10, 0, 10}, {0, 20, 0, 20}, {0, 21, 1, 21}, {0, 0, 0, 0}, {1, 1000, 1000, 1000}, {0, 1000, 980, 1000}, {1, 0, 0, 30},
	} {
		if marks, e := skill.Marks(s, c.instructor, c.level); marks != span(c.lo, c.hi) || e != api.OK {
			t.Errorf("Marks of %d for %d = %v, %d", c.instructor, c.level, marks, e)
		}
	}
	for _, c := range []struct{ instructor, mark, lo, hi int }{
		{0, 500, 500, 520}, {1, 1000, 970, 1000}, {0, 1000, 1000, 1000}, {0, 0, 0, 20}, {1, 0, 0, 0}, {0, 990, 990, 1000}, {1, 10, 0, 10}, {1, 999, 969, 999},
	} {
		if levels, e := skill.Behind(s, c.instructor, c.mark); levels != span(c.lo, c.hi) || e != api.OK {
			t.Errorf("Behind of %d for %d = %v, %d", c.instructor, c.mark, levels, e)
		}
	}
}

// TestEachMarkAndLevel checks P2.2 and P2.8: for all levels, numbers of a bias
// and marks.
func TestEachMarkAndLevel(t *testing.T) {
	for _, bias := range biases {
		s := biased(bias)
		marks, levels := marksOf(bias)
		for n := range api.All + 1 {
			if got, e := skill.Marks(s, 0, n); got != marks[n] || e != api.OK {
				t.Fatalf("%v: Marks for %d = %v, %d, not %v", bias, n, got, e, marks[n])
			}
			want, is := levels[n]
			wantError := api.OK
			if !is {
				wantError = api.ErrDown
			}
			if got, e := skill.Behind(s, 0, n); got != want || e != wantError {
				t.Fatalf("%v: Behind %d = %v, %d, not %v, %d", bias, n, got, e, want, wantError)
			}
		}
	}
}

// TestJustTheLevelsBehindAMark checks P2.8: no level in the range of Behind is
// one for which the mark cannot be given, and none beside it is another one.
func TestJustTheLevelsBehindAMark(t *testing.T) {
	for _, bias := range biases {
		s := biased(bias)
		for mark := 0; mark <= api.All; mark += 1 + mark%13 {
			behind, e := skill.Behind(s, 0, mark)
			for level := 0; level <= api.All; level++ {
				can := false
				for b := bias.Lo; b <= bias.Hi; b++ {
					can = can || markOf(level, b) == mark
				}
				is := e == api.OK && behind.Lo <= level && level <= behind.Hi
				if is != can {
					t.Fatalf("%v: the mark %d for the level %d: %t, but Behind = %v, %d", bias, mark, level, can, behind, e)
				}
			}
		}
	}
}

func TestWiderBias(t *testing.T) {
	for _, bias := range biases {
		for _, wider := range biases {
			if wider.Lo > bias.Lo || wider.Hi < bias.Hi {
				continue
			}
			for n := range api.All + 1 {
				marks, _ := skill.Marks(biased(bias), 0, n)
				more, _ := skill.Marks(biased(wider), 0, n)
				levels, e := skill.Behind(biased(bias), 0, n)
				moreLevels, f := skill.Behind(biased(wider), 0, n)
				if !inside(marks, more) || e == api.OK && (f != api.OK || !inside(levels, moreLevels)) {
					t.Fatalf("%v and %v for %d: Marks %v, %v; Behind %v, %v", bias, wider, n, marks, more, levels, moreLevels)
				}
			}
		}
	}
}

// inside reports whether all numbers of a range are in another one.
func inside(a, b api.Span) bool { return b.Lo <= a.Lo && a.Hi <= b.Hi }

func TestErrorsOfMarksAndBehind(t *testing.T) {
	for _, c := range []struct {
		instructor, number int
		e                  api.Errno
	}{
		{2, 500, api.ErrNone}, {-1, 500, api.ErrNone}, {math.MinInt, 500, api.ErrNone}, {math.MaxInt, 500, api.ErrNone}, {2, -1, api.ErrNone}, {-1, 1001, api.ErrNone},
		{0, -1, api.ErrRange}, {1, 1001, api.ErrRange}, {0, math.MinInt, api.ErrRange}, {1, math.MaxInt, api.ErrRange},
	} {
		marks, e := skill.Marks(example(), c.instructor, c.number)
		levels, f := skill.Behind(example(), c.instructor, c.number)
		if marks != (api.Span{}) || e != c.e || levels != (api.Span{}) || f != c.e {
			t.Errorf("%d, %d: Marks = %v, %d; Behind = %v, %d", c.instructor, c.number, marks, e, levels, f)
		}
	}
	if _, e := skill.Marks(flat(1, 0), 0, 0); e != api.ErrNone {
		t.Errorf("without instructors there is no instructor 0: %d", e)
	}
	for _, c := range []struct {
		bias api.Span
		mark int
	}{{span(1, 7), 0}, {span(2, 7), 1}, {span(-7, -1), 1000}, {span(-7, -2), 999}, {span(300, 300), 299}, {span(-300, -300), 701}} {
		if levels, e := skill.Behind(biased(c.bias), 0, c.mark); levels != (api.Span{}) || e != api.ErrDown {
			t.Errorf("%v: Behind %d = %v, %d", c.bias, c.mark, levels, e)
		}
	}
}

package skill_test

import (
	"math"
	"math/rand"
	"slices"
	"testing"

	"bitepoint/api"
	"bitepoint/skill"
)

// taught is a lesson.
func taught(week, skill int) api.SkEvent {
	return api.SkEvent{Week: week, Kind: api.SkTaught, Skill: skill}
}

// marked is a mark.
func marked(week, skill, instructor, mark int) api.SkEvent {
	return api.SkEvent{Week: week, Kind: api.SkMarked, Skill: skill, Instructor: instructor, Mark: mark}
}

// exampleStart is the start of the document's examples.
func exampleStart() []api.Span { return []api.Span{span(400, 500), span(400, 500)} }

// exampleEvents is E of the document's examples, with a mark.
func exampleEvents(mark int) []api.SkEvent {
	return []api.SkEvent{taught(0, 0), marked(2, 0, 0, mark)}
}

// isIn reports whether a number is in a range.
func isIn(n int, s api.Span) bool { return s.Lo <= n && n <= s.Hi }

// possible is the levels that a skill can have.
type possible map[int]bool

// moved is the levels that become of some by a number of a range, which is
// added with a sign.
func (p possible) moved(by api.Span, sign int) possible {
	next := possible{}
	for level := range p {
		for n := by.Lo; n <= by.Hi; n++ {
			next[markOf(level, sign*n)] = true
		}
	}
	return next
}

// behind is the levels for which a mark can be given.
func (p possible) behind(bias api.Span, mark int) possible {
	next := possible{}
	for level := range p {
		for b := bias.Lo; b <= bias.Hi; b++ {
			if markOf(level, b) == mark {
				next[level] = true
			}
		}
	}
	return next
}

// reached is all levels that the skills can have in a week, after all events,
// one by one as the document defines truths; nil if there is no truth.
func reached(s api.SkSchool, start []api.Span, events []api.SkEvent, week int) []possible {
	var all []possible
	for k := range s.Skills {
		p := possible{}
		for level := start[k].Lo; level <= start[k].Hi; level++ {
			p[level] = true
		}
		for now := 0; now <= week; now++ {
			if now > 0 {
				p = p.moved(s.Skills[k].Fade, -1)
			}
			for _, event := range events {
				if event.Week != now || event.Skill != k {
					continue
				}
				if event.Kind == api.SkTaught {
					p = p.moved(s.Skills[k].Gain, 1)
				} else {
					p = p.behind(s.Instructors[event.Instructor].Bias, event.Mark)
				}
			}
		}
		if len(p) == 0 {
			return nil
		}
		all = append(all, p)
	}
	return all
}

// ends is the least and the greatest of some levels.
func ends(p possible) api.Span {
	s := span(math.MaxInt, math.MinInt)
	for level := range p {
		s = widen(s, level)
	}
	return s
}

// life is a truth: its events, and the levels of all skills behind each event
// and at the end of each week.
type life struct {
	events []api.SkEvent
	weeks  [][]int
}

// from is a random number of a range.
func from(r *rand.Rand, s api.Span) int { return s.Lo + r.Intn(s.Hi-s.Lo+1) }

// randomLife is a truth of some weeks. Marks are the level and what bias tells
// for the instructor, together.
func randomLife(r *rand.Rand, s api.SkSchool, start []api.Span, weeks, most int, bias func(instructor int) int) life {
	var l life
	var levels []int
	for _, s := range start {
		levels = append(levels, from(r, s))
	}
	for week := range weeks + 1 {
		if week > 0 {
			for k := range levels {
				levels[k] = markOf(levels[k], -from(r, s.Skills[k].Fade))
			}
		}
		for range r.Intn(most + 1) {
			k, i := r.Intn(len(levels)), r.Intn(len(s.Instructors))
			if r.Intn(2) == 0 {
				levels[k] = markOf(levels[k], from(r, s.Skills[k].Gain))
				l.events = append(l.events, taught(week, k))
			} else {
				l.events = append(l.events, marked(week, k, i, markOf(levels[k], bias(i))))
			}
		}
		l.weeks = append(l.weeks, slices.Clone(levels))
	}
	return l
}

// until is the events up to a week.
func until(events []api.SkEvent, week int) []api.SkEvent {
	var early []api.SkEvent
	for _, e := range events {
		if e.Week <= week {
			early = append(early, e)
		}
	}
	return early
}

func TestAfter(t *testing.T) {
	lesson := exampleEvents(0)[:1]
	for i, c := range []struct {
		events []api.SkEvent
		week   int
		want   []api.Span
	}{
		{exampleEvents(500), 2, []api.Span{span(500, 520), span(390, 500)}},
		{exampleEvents(500), 3, []api.Span{span(490, 515), span(385, 500)}},
		{lesson, 0, []api.Span{span(420, 540), span(400, 500)}},
		{lesson, 2, []api.Span{span(400, 530), span(390, 500)}},
		{nil, 0, exampleStart()},
		{nil, 1, []api.Span{span(390, 495), span(395, 500)}},
		{nil, 200, []api.Span{span(0, 0), span(0, 500)}},
		{nil, 50, []api.Span{span(0, 250), span(150, 500)}},
		{[]api.SkEvent{marked(0, 0, 1, 400)}, 0, []api.Span{span(400, 400), span(400, 500)}},
		{[]api.SkEvent{marked(0, 1, 1, 410), taught(0, 1)}, 0, []api.Span{span(400, 500), span(410, 440)}},
		{[]api.SkEvent{taught(0, 1), marked(0, 1, 1, 410)}, 0, []api.Span{span(400, 500), span(410, 410)}},
		{[]api.SkEvent{marked(0, 1, 1, 450), marked(0, 1, 0, 430)}, 0, []api.Span{span(400, 500), span(430, 450)}},
		{[]api.SkEvent{taught(200, 0)}, 200, []api.Span{span(20, 40), span(0, 500)}},
		{make([]api.SkEvent, 60), 0, []api.Span{span(1000, 1000), span(400, 500)}},
	} {
		if ranges, e := skill.After(example(), exampleStart(), c.events, c.week); !slices.Equal(ranges, c.want) || e != api.OK {
			t.Errorf("%d: After = %v, %d, not %v", i, ranges, e, c.want)
		}
	}
	for i, events := range [][]api.SkEvent{
		exampleEvents(560), {marked(0, 1, 1, 399)}, {marked(0, 1, 1, 531)}, {marked(0, 1, 1, 450), marked(0, 1, 0, 399)},
		{marked(0, 0, 0, 450), marked(0, 1, 0, 501)}, {marked(0, 0, 0, 1000), taught(1, 0)},
	} {
		if ranges, e := skill.After(example(), exampleStart(), events, 2); ranges != nil || e != api.ErrDown {
			t.Errorf("%d without a truth: After = %v, %d", i, ranges, e)
		}
	}
}

// TestAfterAllTruths checks P2.3 and P2.7: all levels that are reached are in
// the ranges, and both ends of each range are reached.
func TestAfterAllTruths(t *testing.T) {
	r := rand.New(rand.NewSource(1))
	down := 0
	for range 400 {
		s := randomSchool(r, 3)
		start := randomRanges(r, s, 80)
		l := randomLife(r, s, start, r.Intn(6), 3, func(i int) int { return from(r, s.Instructors[i].Bias) })
		for i := range l.events {
			// A mark that is somewhat different is often that of no truth.
			if r.Intn(5) == 0 {
				l.events[i].Mark = markOf(l.events[i].Mark, r.Intn(201)-100)
			}
		}
		for week := range l.weeks {
			events := until(l.events, week)
			want := reached(s, start, events, week)
			ranges, e := skill.After(s, start, events, week)
			if want == nil {
				down++
				if ranges != nil || e != api.ErrDown {
					t.Fatalf("%v, %v, %v, %d: After = %v, %d without a truth", s, start, events, week, ranges, e)
				}
				continue
			}
			if e != api.OK || len(ranges) != len(want) {
				t.Fatalf("%v, %v, %v, %d: After = %v, %d", s, start, events, week, ranges, e)
			}
			for k, p := range want {
				if ranges[k] != ends(p) {
					t.Fatalf("%v, %v, %v, %d: After = %v, not %v for %d", s, start, events, week, ranges, ends(p), k)
				}
			}
		}
	}
	if down < 50 {
		t.Errorf("only %d weeks without a truth", down)
	}
}

// TestAfterRandomTruths checks P2.7 for long truths of wide ranges.
func TestAfterRandomTruths(t *testing.T) {
	r := rand.New(rand.NewSource(2))
	for range 300 {
		s := randomSchool(r, 5)
		start := randomRanges(r, s, 1000)
		weeks := 1 + r.Intn(30)
		l := randomLife(r, s, start, weeks, 2, func(i int) int { return from(r, s.Instructors[i].Bias) })
		for week, levels := range l.weeks {
			ranges, e := skill.After(s, start, until(l.events, week), week)
			if e != api.OK {
				t.Fatalf("%v, %v, %v: After in %d = %d", s, start, l.events, week, e)
			}
			for k, level := range levels {
				if !isIn(level, ranges[k]) {
					t.Fatalf("%v, %v, %v: After in %d = %v, but %d is at %d", s, start, l.events, week, ranges, k, level)
				}
			}
		}
	}
}

// TestNarrowerRangesAndFurtherMarks checks what P2.12 promises of After.
func TestNarrowerRangesAndFurtherMarks(t *testing.T) {
	r := rand.New(rand.NewSource(3))
	for range 500 {
		s := randomSchool(r, 4)
		start := randomRanges(r, s, 300)
		narrow := slices.Clone(start)
		for k := range narrow {
			narrow[k] = span(from(r, start[k]), start[k].Hi)
			narrow[k].Hi = from(r, narrow[k])
		}
		l := randomLife(r, s, narrow, 8, 2, func(i int) int { return from(r, s.Instructors[i].Bias) })
		wide, e := skill.After(s, start, l.events, 8)
		ranges, f := skill.After(s, narrow, l.events, 8)
		fewer := slices.Clone(l.events)
		if at := slices.IndexFunc(fewer, func(e api.SkEvent) bool { return e.Kind == api.SkMarked }); at >= 0 {
			fewer = slices.Delete(fewer, at, at+1)
		}
		less, g := skill.After(s, start, fewer, 8)
		if e != api.OK || f != api.OK || g != api.OK {
			t.Fatalf("%v, %v, %v: After = %d, %d, %d", s, start, l.events, e, f, g)
		}
		for k := range wide {
			if !inside(ranges[k], wide[k]) || !inside(wide[k], less[k]) {
				t.Fatalf("%v, %v, %v, %v: After = %v, %v, %v", s, start, narrow, l.events, less, wide, ranges)
			}
		}
	}
}

// TestAfterInTwoParts checks P2.14.
func TestAfterInTwoParts(t *testing.T) {
	r := rand.New(rand.NewSource(4))
	for range 500 {
		s := randomSchool(r, 4)
		start := randomRanges(r, s, 300)
		l := randomLife(r, s, start, 12, 2, func(i int) int { return from(r, s.Instructors[i].Bias) })
		once, e := skill.After(s, start, l.events, 12)
		// The first part may end within a week, between two of its events.
		first := r.Intn(len(l.events) + 1)
		week := 12
		if first < len(l.events) {
			week = l.events[first].Week
		}
		middle, f := skill.After(s, start, l.events[:first], week)
		later := slices.Clone(l.events[first:])
		for i := range later {
			later[i].Week -= week
		}
		twice, g := skill.After(s, middle, later, 12-week)
		if e != api.OK || f != api.OK || g != api.OK || !slices.Equal(once, twice) {
			t.Fatalf("%v, %v, %v: After = %v, %d, in two parts %v, %d, %d", s, start, l.events, once, e, twice, f, g)
		}
	}
}

// TestLessonsWithoutAnInstructor checks that of a lesson neither the
// instructor nor the mark is looked at.
func TestLessonsWithoutAnInstructor(t *testing.T) {
	for _, wild := range []int{-1, 2, 1001, math.MinInt, math.MaxInt} {
		events := exampleEvents(500)
		events[0].Instructor, events[0].Mark = wild, wild
		ranges, e := skill.After(example(), exampleStart(), events, 2)
		severity, f := skill.Severity(example(), exampleStart(), events, 0)
		if !slices.Equal(ranges, []api.Span{span(500, 520), span(390, 500)}) || e != api.OK || severity != span(-20, 0) || f != api.OK {
			t.Errorf("After = %v, %d; Severity = %v, %d", ranges, e, severity, f)
		}
	}
	school := flat(1, 0)
	if ranges, e := skill.After(school, []api.Span{span(3, 4)}, []api.SkEvent{taught(0, 0)}, 0); !slices.Equal(ranges, []api.Span{span(3, 4)}) || e != api.OK {
		t.Errorf("a school without instructors: After = %v, %d", ranges, e)
	}
}

// TestErrorsOfHistories checks the errors that After and Severity share.
func TestErrorsOfHistories(t *testing.T) {
	start, events := exampleStart(), exampleEvents(500)
	second := func(e api.SkEvent) []api.SkEvent { return []api.SkEvent{taught(1, 0), e} }
	for i, c := range []struct {
		start  []api.Span
		events []api.SkEvent
		e      api.Errno
	}{
		{nil, make([]api.SkEvent, 61), api.ErrLong}, {start[:1], events, api.ErrLong}, {append(exampleStart(), span(-1, 0)), events, api.ErrLong},
		{[]api.Span{span(-1, 500), span(0, 0)}, make([]api.SkEvent, 61), api.ErrRange}, {[]api.Span{span(0, 0), span(400, 1001)}, events, api.ErrRange},
		{[]api.Span{span(0, -1), span(0, 0)}, events, api.ErrRange}, {[]api.Span{span(1001, 1000), span(0, 0)}, events, api.ErrRange},
		{[]api.Span{span(math.MinInt, math.MaxInt), span(0, 0)}, events, api.ErrRange},
		{[]api.Span{span(0, 0), span(401, 400)}, make([]api.SkEvent, 61), api.ErrArg}, {[]api.Span{span(2, 1), span(-1, 0)}, events, api.ErrArg}, {[]api.Span{span(-1, 1), span(2, 1)}, events, api.ErrRange},
		{start, make([]api.SkEvent, 61), api.ErrLong}, {start, append(make([]api.SkEvent, 60), taught(-1, 9)), api.ErrLong},
		{start, second(taught(-1, 9)), api.ErrRange}, {start, second(taught(201, 9)), api.ErrRange}, {start, second(taught(math.MaxInt, 0)), api.ErrRange}, {start, second(taught(math.MinInt, 0)), api.ErrRange},
		{start, second(taught(0, 9)), api.ErrArg}, {start, second(api.SkEvent{Week: 1, Kind: 2, Skill: 9}), api.ErrArg}, {start, second(api.SkEvent{Week: 1, Kind: -1}), api.ErrArg},
		{start, second(api.SkEvent{Week: 1, Kind: math.MaxInt}), api.ErrArg}, {start, second(api.SkEvent{Week: 201, Kind: 2}), api.ErrRange},
		{start, second(taught(1, 2)), api.ErrNone}, {start, second(taught(1, -1)), api.ErrNone}, {start, second(marked(1, 2, 0, -1)), api.ErrNone}, {start, second(marked(1, -1, 0, 0)), api.ErrNone},
		{start, second(marked(1, 0, 2, 1001)), api.ErrNone}, {start, second(marked(1, 0, -1, 0)), api.ErrNone}, {start, second(marked(1, 0, math.MaxInt, 0)), api.ErrNone},
		{start, second(marked(1, 0, 0, -1)), api.ErrRange}, {start, second(marked(1, 0, 0, 1001)), api.ErrRange}, {start, second(marked(0, 0, 0, 1001)), api.ErrArg},
		{start, []api.SkEvent{taught(0, 2), taught(-1, 0)}, api.ErrNone}, {start, []api.SkEvent{marked(0, 0, 0, 1001), taught(0, 2)}, api.ErrRange},
		{start, []api.SkEvent{taught(5, 0), taught(5, 0), taught(4, 0)}, api.ErrArg},
	} {
		ranges, e := skill.After(example(), c.start, c.events, -1)
		severity, f := skill.Severity(example(), c.start, c.events, -1)
		if ranges != nil || e != c.e || severity != (api.Span{}) || f != c.e {
			t.Errorf("%d: After = %v, %d; Severity = %v, %d", i, ranges, e, severity, f)
		}
	}
}

func TestErrorsOfAfter(t *testing.T) {
	none := exampleEvents(560)
	for _, c := range []struct {
		events []api.SkEvent
		week   int
		e      api.Errno
	}{
		{none, -1, api.ErrRange}, {none, 201, api.ErrRange}, {none, math.MinInt, api.ErrRange}, {none, math.MaxInt, api.ErrRange}, {none, 1, api.ErrArg}, {none, 0, api.ErrArg},
		{none, 2, api.ErrDown}, {none, 200, api.ErrDown}, {[]api.SkEvent{taught(200, 0)}, 199, api.ErrArg}, {nil, -1, api.ErrRange}, {nil, 201, api.ErrRange},
	} {
		if ranges, e := skill.After(example(), exampleStart(), c.events, c.week); ranges != nil || e != c.e {
			t.Errorf("%v in %d: After = %v, %d", c.events, c.week, ranges, e)
		}
	}
}

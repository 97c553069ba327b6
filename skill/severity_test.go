package skill_test

import (
	"math"
	"math/rand"
	"slices"
	"testing"

	"bitepoint/api"
	"bitepoint/skill"
)

func TestSeverity(t *testing.T) {
	lo := func(lo, hi int) api.SkSchool {
		s := example()
		s.Instructors[0].Bias = span(lo, hi)
		return s
	}
	for i, c := range []struct {
		s          api.SkSchool
		events     []api.SkEvent
		instructor int
		want       api.Span
		e          api.Errno
	}{
		{example(), exampleEvents(500), 0, span(-20, 0), api.OK}, {example(), exampleEvents(520), 0, span(-10, 0), api.OK}, {example(), exampleEvents(530), 0, span(0, 0), api.OK},
		{example(), exampleEvents(531), 0, api.Span{}, api.ErrDown}, {example(), exampleEvents(390), 0, span(-20, -10), api.OK}, {example(), exampleEvents(379), 0, api.Span{}, api.ErrDown},
		{example(), nil, 0, span(-20, 0), api.OK}, {example(), nil, 1, span(0, 30), api.OK}, {example(), exampleEvents(500), 1, span(0, 30), api.OK}, {example(), exampleEvents(531), 1, api.Span{}, api.ErrDown},
		{lo(-300, 300), exampleEvents(700), 0, span(170, 300), api.OK}, {lo(-300, 300), exampleEvents(100), 0, span(-300, -300), api.OK}, {lo(-300, 300), exampleEvents(99), 0, api.Span{}, api.ErrDown},
		{lo(-300, 300), []api.SkEvent{marked(0, 0, 0, 450), marked(0, 1, 0, 550)}, 0, span(50, 50), api.OK}, {lo(-300, 300), []api.SkEvent{marked(0, 0, 0, 450), marked(0, 1, 0, 551)}, 0, api.Span{}, api.ErrDown},
		{lo(-300, 300), []api.SkEvent{marked(0, 0, 0, 450), marked(0, 0, 0, 451)}, 0, api.Span{}, api.ErrDown}, {lo(-300, 300), []api.SkEvent{marked(0, 0, 0, 450), marked(0, 0, 1, 450)}, 0, span(0, 30), api.OK},
	} {
		if severity, e := skill.Severity(c.s, exampleStart(), c.events, c.instructor); severity != c.want || e != c.e {
			t.Errorf("%d: Severity = %v, %d, not %v, %d", i, severity, e, c.want, c.e)
		}
	}
}

// TestSeverityOfMarksAtTheLimits checks marks that stand for more than one sum
// of a level and a bias.
func TestSeverityOfMarksAtTheLimits(t *testing.T) {
	s := biased(span(-300, 300))
	for i, c := range []struct {
		start api.Span
		marks []int
		want  api.Span
	}{
		{span(900, 950), []int{1000}, span(50, 300)}, {span(100, 120), []int{0}, span(-300, -100)}, {span(900, 950), []int{1000, 999}, api.Span{}}, {span(0, 10), []int{0}, span(-300, 0)},
		{span(1000, 1000), []int{1000}, span(0, 300)}, {span(0, 1000), []int{0}, span(-300, 0)}, {span(0, 1000), []int{1}, span(-300, 1)}, {span(0, 1000), []int{999}, span(-1, 300)},
	} {
		var events []api.SkEvent
		for _, mark := range c.marks {
			events = append(events, marked(0, 0, 0, mark))
		}
		wantError := api.OK
		if c.want == (api.Span{}) {
			wantError = api.ErrDown
		}
		if severity, e := skill.Severity(s, []api.Span{c.start}, events, 0); severity != c.want || e != wantError {
			t.Errorf("%d: Severity = %v, %d, not %v", i, severity, e, c.want)
		}
	}
}

// severityOf is the range of Severity as the document defines it.
func severityOf(s api.SkSchool, start []api.Span, events []api.SkEvent, instructor int) (api.Span, api.Errno) {
	found := possible{}
	bias := s.Instructors[instructor].Bias
	for b := bias.Lo; b <= bias.Hi; b++ {
		always := s
		always.Instructors = slices.Clone(s.Instructors)
		always.Instructors[instructor].Bias = span(b, b)
		week := 0
		if len(events) > 0 {
			week = events[len(events)-1].Week
		}
		if reached(always, start, events, week) != nil {
			found[b] = true
		}
	}
	if len(found) == 0 {
		return api.Span{}, api.ErrDown
	}
	return ends(found), api.OK
}

// TestSeverityOfAllTruths checks P2.4 and P2.9 for instructors who always add
// the same number, and for some who do not.
func TestSeverityOfAllTruths(t *testing.T) {
	r := rand.New(rand.NewSource(5))
	down := 0
	for range 150 {
		s := randomSchool(r, 3)
		start := randomRanges(r, s, 60)
		instructor := r.Intn(len(s.Instructors))
		always, steady := from(r, s.Instructors[instructor].Bias), r.Intn(3) > 0
		l := randomLife(r, s, start, r.Intn(4), 3, func(i int) int {
			if steady && i == instructor {
				return always
			}
			return from(r, s.Instructors[i].Bias)
		})
		want, wantError := severityOf(s, start, l.events, instructor)
		severity, e := skill.Severity(s, start, l.events, instructor)
		if severity != want || e != wantError {
			t.Fatalf("%v, %v, %v: Severity of %d = %v, %d, not %v, %d", s, start, l.events, instructor, severity, e, want, wantError)
		}
		if steady && (e != api.OK || !isIn(always, severity)) {
			t.Fatalf("%v, %v, %v: Severity of %d = %v, %d, but it is %d", s, start, l.events, instructor, severity, e, always)
		}
		if e == api.ErrDown {
			down++
		}
	}
	if down == 0 {
		t.Errorf("no case without a truth")
	}
}

// TestSeverityOfRandomTruths checks P2.9 for long truths of wide ranges.
func TestSeverityOfRandomTruths(t *testing.T) {
	r := rand.New(rand.NewSource(6))
	for range 200 {
		s := randomSchool(r, 5)
		start := randomRanges(r, s, 1000)
		var always []int
		for _, i := range s.Instructors {
			always = append(always, from(r, i.Bias))
		}
		l := randomLife(r, s, start, 20, 2, func(i int) int { return always[i] })
		for i := range s.Instructors {
			if severity, e := skill.Severity(s, start, l.events, i); e != api.OK || !isIn(always[i], severity) || !inside(severity, s.Instructors[i].Bias) {
				t.Fatalf("%v, %v, %v: Severity of %d = %v, %d, but it is %d", s, start, l.events, i, severity, e, always[i])
			}
		}
	}
}

func TestErrorsOfSeverity(t *testing.T) {
	for _, instructor := range []int{2, -1, math.MinInt, math.MaxInt} {
		for _, mark := range []int{500, 560} {
			if severity, e := skill.Severity(example(), exampleStart(), exampleEvents(mark), instructor); severity != (api.Span{}) || e != api.ErrNone {
				t.Errorf("Severity of %d = %v, %d", instructor, severity, e)
			}
		}
	}
}

package skill

import (
	"slices"

	"bitepoint/api"
	"bitepoint/check"
)

// After returns which levels a learner can have after some events, in a week.
func After(s api.SkSchool, start []api.Span, events []api.SkEvent, week int) ([]api.Span, api.Errno) {
	if e := historyError(s, start, events); e != api.OK {
		return nil, e
	}
	if !check.Within(0, api.MaxSkWeek, week) {
		return nil, api.ErrRange
	}
	if week < lastWeek(events) {
		return nil, api.ErrArg
	}
	return history(s, start, events, week)
}

// Severity returns by how much the marks of an instructor can be above the
// levels, if this is always the same.
func Severity(s api.SkSchool, start []api.Span, events []api.SkEvent, instructor int) (api.Span, api.Errno) {
	if e := historyError(s, start, events); e != api.OK {
		return api.Span{}, e
	}
	if !isInstructor(s, instructor) {
		return api.Span{}, api.ErrNone
	}
	s.Instructors = slices.Clone(s.Instructors)
	bias := s.Instructors[instructor].Bias
	isTrue := func(always int) bool {
		s.Instructors[instructor].Bias = api.Span{Lo: always, Hi: always}
		_, e := history(s, start, events, lastWeek(events))
		return e == api.OK
	}
	for bias.Lo <= bias.Hi && !isTrue(bias.Lo) {
		bias.Lo++
	}
	if isEmpty(bias) {
		return api.Span{}, api.ErrDown
	}
	for !isTrue(bias.Hi) {
		bias.Hi--
	}
	return bias, api.OK
}

// historyError returns the error of a school, of the ranges start, and of
// events.
func historyError(s api.SkSchool, start []api.Span, events []api.SkEvent) api.Errno {
	if _, _, e := Check(s); e != api.OK {
		return e
	}
	if e := rangesError(s, start); e != api.OK {
		return e
	}
	if len(events) > api.MaxSkEvents {
		return api.ErrLong
	}
	_, e := check.FirstError(events, eventErrors(s, events))
	return e
}

// eventErrors returns what tells the error of an event.
func eventErrors(s api.SkSchool, events []api.SkEvent) func(at int, event api.SkEvent) api.Errno {
	return func(at int, event api.SkEvent) api.Errno {
		marked := event.Kind == api.SkMarked
		switch {
		case !check.Within(0, api.MaxSkWeek, event.Week):
			return api.ErrRange
		case event.Week < lastWeek(events[:at]) || !marked && event.Kind != api.SkTaught:
			return api.ErrArg
		case !isSkill(s, event.Skill) || marked && !isInstructor(s, event.Instructor):
			return api.ErrNone
		case marked && !check.Within(0, api.All, event.Mark):
			return api.ErrRange
		}
		return api.OK
	}
}

// lastWeek returns the week of the last event, or 0 if there is none.
func lastWeek(events []api.SkEvent) int {
	if len(events) == 0 {
		return 0
	}
	return events[len(events)-1].Week
}

// history returns the ranges of a learner in a week, after all events, or
// ErrDown if there is no truth. Skills have nothing to do with each other, and
// what becomes of a range is a range again: so both ends of each one are
// reached.
func history(s api.SkSchool, start []api.Span, events []api.SkEvent, week int) (ranges []api.Span, e api.Errno) {
	defer func() {
		if recover() != nil {
			ranges, e = nil, api.ErrDown
		}
	}()
	l := newLearner(s, start)
	l.live(events, week)
	return l.ranges(), api.OK
}

// learner is a learner of a school who is looked at: levels are those of the
// skills, in their order.
type learner struct {
	api.SkSchool
	levels []level
}

// newLearner returns a learner with some ranges.
func newLearner(s api.SkSchool, start []api.Span) learner {
	l := learner{SkSchool: s}
	for _, r := range start {
		l.levels = append(l.levels, newLevel(r))
	}
	return l
}

// ranges returns the ranges of the learner.
func (l learner) ranges() []api.Span {
	var all []api.Span
	for _, level := range l.levels {
		all = append(all, level.now())
	}
	return all
}

// live lets all events come, and the weeks up to a week pass. It panics if
// there is no truth.
func (l learner) live(events []api.SkEvent, week int) {
	happen := [2]func(event api.SkEvent){api.SkTaught: l.taught, api.SkMarked: l.marked}
	now := 0
	for _, event := range events {
		l.wait(event.Week - now)
		now = event.Week
		happen[event.Kind](event)
	}
	l.wait(week - now)
}

// taught raises the level of the skill of a lesson.
func (l learner) taught(lesson api.SkEvent) {
	l.levels[lesson.Skill].raise(l.Skills[lesson.Skill].Gain)
}

// marked narrows the level of a skill to those that can be behind a mark.
func (l learner) marked(mark api.SkEvent) {
	l.levels[mark.Skill].narrow(behind(l.Instructors[mark.Instructor].Bias, mark.Mark))
}

// wait lowers all levels for some weeks.
func (l learner) wait(weeks int) {
	for range weeks {
		for skill, level := range l.levels {
			level.lower(l.Skills[skill].Fade)
		}
	}
}

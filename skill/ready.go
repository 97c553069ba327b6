package skill

import (
	"iter"
	"slices"

	"bitepoint/api"
	"bitepoint/check"
)

// Chance returns the chance with which a test is passed at some levels.
func Chance(s api.SkSchool, t api.SkTest, levels []int) (int, api.Errno) {
	if e := testError(s, t); e != api.OK {
		return 0, e
	}
	if len(levels) != len(s.Skills) {
		return 0, api.ErrLong
	}
	if !check.Within(0, api.All, levels...) {
		return 0, api.ErrRange
	}
	return chanceAt(t, levels), api.OK
}

// Ready returns whether a learner is ready for a test, and the least and the
// greatest chance.
func Ready(s api.SkSchool, t api.SkTest, ranges []api.Span, chance int) (ready bool, least, most int, e api.Errno) {
	if e := readyError(s, t, ranges, chance); e != api.OK {
		return false, 0, 0, e
	}
	// With a higher level no chance is lower: the ends of the ranges decide.
	var lowest, highest []int
	for _, r := range ranges {
		lowest = append(lowest, r.Lo)
		highest = append(highest, r.Hi)
	}
	least, most = chanceAt(t, lowest), chanceAt(t, highest)
	return least >= parts(t, chance), least, most, api.OK
}

// Fewest returns the fewest further lessons with which a learner is ready.
func Fewest(s api.SkSchool, t api.SkTest, ranges []api.Span, chance int) ([]int, api.Errno) {
	if e := readyError(s, t, ranges, chance); e != api.OK {
		return nil, e
	}
	needed := parts(t, chance)
	for plan := range plans(len(s.Skills)) {
		if chanceAt(t, lowestAfter(s, ranges, plan)) >= needed {
			return plan, api.OK
		}
	}
	return nil, api.ErrDown
}

// readyError returns the error of a school, of a test, of ranges, and of a
// chance.
func readyError(s api.SkSchool, t api.SkTest, ranges []api.Span, chance int) api.Errno {
	if e := testError(s, t); e != api.OK {
		return e
	}
	if e := rangesError(s, ranges); e != api.OK {
		return e
	}
	if !check.Within(0, api.All, chance) {
		return api.ErrRange
	}
	return api.OK
}

// testError returns the error of a school, and of a test.
func testError(s api.SkSchool, t api.SkTest) api.Errno {
	if _, _, e := Check(s); e != api.OK {
		return e
	}
	if !check.Within(1, api.MaxSkTasks, len(t.Tasks)) {
		return api.ErrLong
	}
	if !check.Within(0, len(t.Tasks)-1, t.Allowed) {
		return api.ErrRange
	}
	_, e := check.FirstError(t.Tasks, func(_ int, task api.SkTask) api.Errno {
		if !isSkill(s, task.Skill) {
			return api.ErrNone
		}
		if !check.Within(0, api.All, task.Level) {
			return api.ErrRange
		}
		return api.OK
	})
	return e
}

// chanceAt returns the chance to pass a test at some levels.
func chanceAt(t api.SkTest, levels []int) int {
	// For each number of tasks, the chance that just so many are not done.
	missed := [api.MaxSkTasks + 1]int{1}
	for _, task := range t.Tasks {
		done := limit(0, api.All, api.SkEven+levels[task.Skill]-task.Level)
		for n := len(t.Tasks); n > 0; n-- {
			missed[n] = missed[n]*done + missed[n-1]*(api.All-done)
		}
		missed[0] *= done
	}
	sum := 0
	for _, chance := range missed[:t.Allowed+1] {
		sum += chance
	}
	return sum
}

// parts returns how many parts of the chance to pass a test are a chance in
// per mille. All tasks but one are multiplied, as the product of all of them
// and of the chance is no int.
func parts(t api.SkTest, chance int) int {
	for range len(t.Tasks) - 1 {
		chance *= api.All
	}
	return chance
}

// lowestAfter returns the lowest levels after the lessons of a plan.
func lowestAfter(s api.SkSchool, ranges []api.Span, plan []int) []int {
	var levels []int
	for skill, r := range ranges {
		levels = append(levels, limit(0, api.All, r.Lo+plan[skill]*s.Skills[skill].Gain.Lo))
	}
	return levels
}

// plans yields all plans for some skills: those with fewer lessons first, and
// those with as many skill by skill.
func plans(skills int) iter.Seq[[]int] {
	return func(yield func(plan []int) bool) {
		for lessons := range skills*api.MaxSkLessons + 1 {
			if !share(make([]int, skills), 0, lessons, yield) {
				return
			}
		}
	}
}

// share shares lessons out among the skills of a plan from one on, and yields
// each plan that comes of it. It reports whether more of them are wanted.
func share(plan []int, skill, lessons int, yield func(plan []int) bool) bool {
	if skill == len(plan) {
		return yield(slices.Clone(plan))
	}
	// The skills behind this one take no more than this.
	rest := (len(plan) - skill - 1) * api.MaxSkLessons
	for n := max(0, lessons-rest); n <= min(lessons, api.MaxSkLessons); n++ {
		plan[skill] = n
		if !share(plan, skill+1, lessons-n, yield) {
			return false
		}
	}
	return true
}

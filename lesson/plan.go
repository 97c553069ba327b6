package lesson

import (
	"cmp"
	"slices"

	"bitepoint/api"
	"bitepoint/check"
	"bitepoint/class"
)

// Broken returns the first rule that a plan breaks.
func Broken(p api.LePlan) (api.LeBroken, api.Errno) {
	v, e := openPlan(p)
	if e != api.OK {
		return api.LeBroken{}, e
	}
	return v.broken(), api.OK
}

// Hours returns how many minutes of lessons everybody has.
func Hours(p api.LePlan) (api.LeHours, api.Errno) {
	v, e := openPlan(p)
	if e != api.OK {
		return api.LeHours{}, e
	}
	return api.LeHours{
		Learners: v.minutes(len(v.Learners), learnerOf),
		Teachers: v.minutes(len(v.Teachers), teacherOf),
		Cars:     v.minutes(len(v.Cars), carOf),
	}, api.OK
}

// planView is a plan that is looked at, with its day.
type planView struct {
	view
	api.LePlan
}

// openPlan returns the view of a plan, and its error.
func openPlan(p api.LePlan) (planView, api.Errno) {
	if _, _, e := class.Check(p.System); e != api.OK {
		return planView{}, e
	}
	day, e := open(p.Day)
	if e != api.OK {
		return planView{}, e
	}
	v := planView{day, p}
	if e := v.peopleError(); e != api.OK {
		return planView{}, e
	}
	return v, api.OK
}

// peopleError returns the error of learners, teachers and cars, and of what
// lessons have of them.
func (v planView) peopleError() api.Errno {
	if !check.Within(0, api.MaxLePeople, len(v.Learners), len(v.Teachers), len(v.Cars)) {
		return api.ErrLong
	}
	if _, e := check.FirstError(v.Learners, v.learnerError); e != api.OK {
		return e
	}
	if _, e := check.FirstError(v.Teachers, v.teacherError); e != api.OK {
		return e
	}
	if _, e := check.FirstError(v.Cars, v.carError); e != api.OK {
		return e
	}
	_, e := check.FirstError(v.Lessons, v.absentError)
	return e
}

// learnerError returns ErrNone for a learner who learns no class.
func (v planView) learnerError(_ int, learns int) api.Errno {
	_, e := class.Covers(v.System, learns)
	return e
}

// teacherError returns the error of a teacher.
func (v planView) teacherError(_ int, t api.LeTeacher) api.Errno {
	if _, e := class.Least(v.System, t.Rights); e != api.OK {
		return e
	}
	if !check.Within(0, api.MaxLeDay, t.Begin, t.End) {
		return api.ErrRange
	}
	if t.Begin > t.End {
		return api.ErrArg
	}
	return api.OK
}

// carError returns the error of a car, which is the same whoever may drive it:
// so it is asked without rights.
func (v planView) carError(_ int, c api.LeCar) api.Errno {
	_, e := class.May(v.System, nil, c.Class, c.Features)
	return e
}

// absentError returns ErrNone for a lesson with somebody, or a car, that the
// plan has not.
func (v planView) absentError(_ int, l api.LeLesson) api.Errno {
	if l.Learner >= len(v.Learners) || l.Teacher >= len(v.Teachers) || l.Car >= len(v.Cars) {
		return api.ErrNone
	}
	return api.OK
}

// broken returns the first rule that is broken, and by which lessons.
func (v planView) broken() api.LeBroken {
	rule := 0
	for _, keeps := range []func(l api.LeLesson) bool{v.isLearnt, v.isAllowed, v.isInHours} {
		rule++
		for at, l := range v.Lessons {
			if !keeps(l) {
				return api.LeBroken{Rule: rule, A: at}
			}
		}
	}
	for _, whose := range []func(l api.LeLesson) int{learnerOf, teacherOf, carOf} {
		rule++
		if a, b, is := v.late(whose); is {
			return api.LeBroken{Rule: rule, A: a, B: b}
		}
	}
	return api.LeBroken{}
}

// isLearnt reports whether the car of a lesson is of the class that is learnt.
func (v planView) isLearnt(l api.LeLesson) bool { return v.Cars[l.Car].Class == v.Learners[l.Learner] }

// isAllowed reports whether the teacher of a lesson may drive its car.
func (v planView) isAllowed(l api.LeLesson) bool {
	car := v.Cars[l.Car]
	may, _ := class.May(v.System, v.Teachers[l.Teacher].Rights, car.Class, car.Features)
	return may
}

// isInHours reports whether a lesson is within the hours of its teacher.
func (v planView) isInHours(l api.LeLesson) bool {
	return check.Within(v.Teachers[l.Teacher].Begin, v.Teachers[l.Teacher].End, l.Begin, l.End)
}

// late returns the first two lessons next to each other of which the second
// one can't follow the first one, and whether there are any: of the first
// learner, teacher or car that has such lessons, whichever of them is told by
// whose a lesson is.
func (v planView) late(whose func(l api.LeLesson) int) (a, b int, is bool) {
	for somebody := range api.MaxLePeople {
		theirs := pick(v.Lessons, func(l api.LeLesson) bool { return whose(l) == somebody })
		slices.SortStableFunc(theirs, func(a, b int) int { return cmp.Compare(v.Lessons[a].Begin, v.Lessons[b].Begin) })
		for i := 1; i < len(theirs); i++ {
			if !v.canFollow(theirs[i-1], theirs[i]) {
				return theirs[i-1], theirs[i], true
			}
		}
	}
	return 0, 0, false
}

// minutes returns how many minutes of lessons each of so many learners,
// teachers or cars has.
func (v planView) minutes(many int, whose func(l api.LeLesson) int) []int {
	sums := make([]int, many)
	for _, l := range v.Lessons {
		sums[whose(l)] += l.End - l.Begin
	}
	return sums
}

// learnerOf returns the learner of a lesson.
func learnerOf(l api.LeLesson) int { return l.Learner }

// teacherOf returns the teacher of a lesson.
func teacherOf(l api.LeLesson) int { return l.Teacher }

// carOf returns the car of a lesson.
func carOf(l api.LeLesson) int { return l.Car }

// pick returns the indices of all elements of a list that are wanted.
func pick[T any](list []T, wanted func(element T) bool) []int {
	var indices []int
	for at, element := range list {
		if wanted(element) {
			indices = append(indices, at)
		}
	}
	return indices
}

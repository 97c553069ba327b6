package book

import (
	"iter"

	"bitepoint/api"
)

// lessonError returns the error with which a lesson is refused that somebody
// wants at some time.
func (b *books) lessonError(l api.BkLesson, time int) api.Errno {
	switch {
	case l.Start <= time || !b.fits(l):
		return api.ErrArg
	case !b.canBeDriven(l):
		return api.ErrDown
	case !b.isFree(l):
		return api.ErrTwice
	}
	return api.OK
}

// move moves a lesson to a later day, or cancels it if there is none. As it is
// at the same hours of another day, it is never in its own way.
func (b *books) move(number int) {
	l := b.Lessons[number]
	for l.Start += dayHours; endOf(l) <= api.MaxBkHour; l.Start += dayHours {
		if b.canBeDriven(l) && b.isFree(l) {
			b.Lessons[number] = l
			return
		}
	}
	b.Lessons[number].State = api.BkCancelled
}

// openLessons yields the numbers of all lessons that are open, and the
// lessons.
func (b *books) openLessons() iter.Seq2[int, api.BkLesson] {
	return func(yield func(number int, l api.BkLesson) bool) {
		for number, l := range b.Lessons {
			if l.State == api.BkOpen && !yield(number, l) {
				return
			}
		}
	}
}

// fits reports whether a lesson is within the hours in which the school is
// open. These are of one day, so the hours of the lesson are, too.
func (b *books) fits(l api.BkLesson) bool {
	midnight := dayOf(l.Start) * dayHours
	return l.Start-midnight >= b.Open.Lo && endOf(l)-midnight <= b.Open.Hi
}

// canBeDriven reports whether the car of a lesson is driven in all weathers of
// its day.
func (b *books) canBeDriven(l api.BkLesson) bool {
	return b.weathers[dayOf(l.Start)]&b.Cars[l.Car].Never == 0
}

// isFree reports whether no open lesson of its learner, or of its car, is in
// the way of a lesson.
func (b *books) isFree(l api.BkLesson) bool {
	isInTheWay := func(other api.BkLesson) bool {
		return (other.Learner == l.Learner || other.Car == l.Car) && other.Start < endOf(l) && l.Start < endOf(other)
	}
	for _, other := range b.openLessons() {
		if isInTheWay(other) {
			return false
		}
	}
	return true
}

// dayOf returns the day of an hour.
func dayOf(hour int) int { return hour / dayHours }

// endOf returns the end of a lesson.
func endOf(l api.BkLesson) int { return l.Start + l.Hours }

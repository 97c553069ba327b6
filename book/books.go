package book

import (
	"bitepoint/api"
	"bitepoint/check"
	"bitepoint/sets"
)

// The accounts that are behind those of the learners.
const (
	school = iota
	garage
	insurer
	world
	others // how many they are
)

// books are those of a school, with what there is after events.
type books struct {
	api.BkSchool
	api.BkState
	weathers map[int]int // of each day, as bits
	postings []api.BkPosting
	time     int
	event    int // the index of the one that is told now
}

// open returns the books of a school after some events, the error of each
// event, and that of the arguments.
func open(s api.BkSchool, events []api.BkEvent) (*books, []api.Errno, api.Errno) {
	if _, _, e := Check(s); e != api.OK {
		return nil, nil, e
	}
	if len(events) > api.MaxBkEvents {
		return nil, nil, api.ErrLong
	}
	b := newBooks(s)
	refusals := make([]api.Errno, len(events))
	for at, event := range events {
		b.event = at
		refusals[at] = b.tell(event)
	}
	return b, refusals, api.OK
}

// newBooks returns the books of a school before all events.
func newBooks(s api.BkSchool) *books {
	b := &books{BkSchool: s, weathers: map[int]int{}}
	for _, car := range s.Cars {
		b.Km = append(b.Km, car.Km)
	}
	b.Since = make([]int, len(s.Cars))
	b.Accounts = make([]int, len(s.Learners)+others)
	return b
}

// tell does an event, or returns the error with which it is refused. What an
// event needs is left by a panic, so it must come before all that it does.
func (b *books) tell(event api.BkEvent) (refusal api.Errno) {
	defer func() {
		if e, is := recover().(api.Errno); is {
			refusal = e
		}
	}()
	kinds := [api.BkPay + 1]func(b *books, event api.BkEvent){
		api.BkBook:    (*books).book,
		api.BkCancel:  (*books).cancel,
		api.BkWeather: (*books).weather,
		api.BkDrive:   (*books).drive,
		api.BkService: (*books).service,
		api.BkCrash:   (*books).crash,
		api.BkPay:     (*books).pay,
	}
	check.Need(check.Within(0, len(kinds)-1, event.Kind), api.ErrArg)
	check.Need(isHour(event.At) && event.At >= b.time, api.ErrRange)
	kinds[event.Kind](b, event)
	b.time = event.At
	return api.OK
}

// book opens a lesson.
func (b *books) book(event api.BkEvent) {
	check.Need(b.isLearner(event.Learner) && b.isCar(event.Car), api.ErrNone)
	check.Need(isLength(event.Hours) && isHour(event.Start), api.ErrRange)
	l := api.BkLesson{Learner: event.Learner, Car: event.Car, Start: event.Start, Hours: event.Hours}
	e := b.lessonError(l, event.At)
	check.Need(e == api.OK, e)
	b.Lessons = append(b.Lessons, l)
}

// cancel cancels a lesson, for its fee.
func (b *books) cancel(event api.BkEvent) {
	check.Need(b.isLesson(event.Booking, api.BkOpen), api.ErrNone)
	l := &b.Lessons[event.Booking]
	check.Need(event.At < l.Start, api.ErrArg)
	l.State = api.BkCancelled
	b.post(l.Learner, b.account(school), fee(b.BkSchool, l.Hours, l.Start-event.At))
}

// weather gives a day a weather, and moves the lessons that can't be driven in
// it.
func (b *books) weather(event api.BkEvent) {
	check.Need(check.Within(0, lastDay, event.Day) && check.Within(0, api.BkWeathers-1, event.Weather), api.ErrRange)
	b.weathers[event.Day] |= 1 << event.Weather
	for number, l := range b.openLessons() {
		if dayOf(l.Start) == event.Day && l.Start > event.At && sets.Has(b.Cars[l.Car].Never, event.Weather) {
			b.move(number)
		}
	}
}

// drive ends a lesson that was driven.
func (b *books) drive(event api.BkEvent) {
	check.Need(b.isLesson(event.Booking, api.BkOpen), api.ErrNone)
	l := &b.Lessons[event.Booking]
	check.Need(event.At >= endOf(*l), api.ErrArg)
	check.Need(check.Within(0, api.MaxBkDriven, event.Km), api.ErrRange)
	check.Need(b.Since[l.Car] <= b.Cars[l.Car].Every, api.ErrDown)
	l.State = api.BkDriven
	b.Km[l.Car] += event.Km
	b.Since[l.Car] += event.Km
	b.post(l.Learner, b.account(school), l.Hours*b.Price)
}

// service lets the garage service a car.
func (b *books) service(event api.BkEvent) {
	check.Need(b.isCar(event.Car), api.ErrNone)
	check.Need(isAmount(event.Cents), api.ErrRange)
	b.Since[event.Car] = 0
	b.post(b.account(school), b.account(garage), event.Cents)
}

// crash lets the school and the insurer pay the damage of a lesson.
func (b *books) crash(event api.BkEvent) {
	check.Need(b.isLesson(event.Booking, api.BkDriven), api.ErrNone)
	check.Need(isAmount(event.Cents), api.ErrRange)
	b.Lessons[event.Booking].State = api.BkCrashed
	own := min(event.Cents, b.Excess)
	b.post(b.account(school), b.account(garage), own)
	b.post(b.account(insurer), b.account(garage), event.Cents-own)
}

// pay lets a learner pay into their account.
func (b *books) pay(event api.BkEvent) {
	check.Need(b.isLearner(event.Learner), api.ErrNone)
	check.Need(isAmount(event.Cents), api.ErrRange)
	b.post(b.account(world), event.Learner, event.Cents)
}

// post moves cents from an account to another one.
func (b *books) post(from, to, cents int) {
	if cents == 0 {
		return
	}
	b.Accounts[from] -= cents
	b.Accounts[to] += cents
	b.postings = append(b.postings, api.BkPosting{Event: b.event, From: from, To: to, Cents: cents})
}

// account returns the number of an account that is behind those of the
// learners.
func (b *books) account(other int) int { return len(b.Learners) + other }

// isLearner reports whether a number is the index of a learner.
func (b *books) isLearner(index int) bool { return check.Within(0, len(b.Learners)-1, index) }

// isCar reports whether a number is the index of a car.
func (b *books) isCar(index int) bool { return check.Within(0, len(b.Cars)-1, index) }

// isLesson reports whether a number is that of a lesson in a state.
func (b *books) isLesson(number, state int) bool {
	return check.Within(0, len(b.Lessons)-1, number) && b.Lessons[number].State == state
}

// isAmount reports whether so many cents can be paid.
func isAmount(cents int) bool { return check.Within(0, api.MaxBkAmount, cents) }

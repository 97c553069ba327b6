package book_test

import (
	"math"
	"slices"
	"testing"

	"bitepoint/api"
	"bitepoint/book"
)

// exampleEvents is E of the document's examples.
func exampleEvents() []api.BkEvent {
	return []api.BkEvent{booked(0, ann, mini, 33, 2), booked(0, ben, mini, 34, 1), booked(0, ben, van, 34, 1), cancelled(5, 0)}
}

// allDay is the example, but open all day, and the mini is not driven in the
// weathers 1 and 3, the van not in 3 and 7.
func allDay() api.BkSchool {
	s := example()
	s.Open = api.Span{Lo: 0, Hi: 24}
	s.Cars[mini].Never, s.Cars[van].Never = 2|8, 8|128
	return s
}

// runCase is events, what becomes of them, and what there is then.
type runCase struct {
	name     string
	s        api.BkSchool
	events   []api.BkEvent
	refusals []api.Errno
	state    api.BkState
	postings []api.BkPosting
}

// check runs the events of a case.
func (c runCase) check(t *testing.T) {
	t.Helper()
	refusals, state, e := book.Run(c.s, c.events)
	if !slices.Equal(refusals, c.refusals) || !sameState(state, c.state) || e != api.OK {
		t.Errorf("%s: Run = %v, %v, %d, not %v, %v", c.name, refusals, state, e, c.refusals, c.state)
	}
	if postings, e := book.Postings(c.s, c.events); !slices.Equal(postings, c.postings) || e != api.OK {
		t.Errorf("%s: Postings = %v, %d, not %v", c.name, postings, e, c.postings)
	}
}

// The accounts of the example that are behind those of the learners.
const (
	school  = 2
	garage  = 3
	insurer = 4
	world   = 5
)

// posted is a posting.
func posted(event, from, to, cents int) api.BkPosting {
	return api.BkPosting{Event: event, From: from, To: to, Cents: cents}
}

// TestExamples checks P5.3 for the document's examples, and for no events.
func TestExamples(t *testing.T) {
	runCase{
		name: "no events", s: example(),
		state: api.BkState{Km: []int{0, 500}, Since: []int{0, 0}, Accounts: []int{0, 0, 0, 0, 0, 0}},
	}.check(t)
	runCase{
		name: "E", s: example(), events: exampleEvents(), refusals: []api.Errno{api.OK, api.ErrTwice, api.OK, api.OK},
		state: api.BkState{
			Lessons: []api.BkLesson{lesson(ann, mini, 33, 2, api.BkCancelled), lesson(ben, van, 34, 1, api.BkOpen)},
			Km:      []int{0, 500}, Since: []int{0, 0}, Accounts: []int{-4000, 0, 4000, 0, 0, 0},
		},
		postings: []api.BkPosting{posted(3, ann, school, 4000)},
	}.check(t)
	runCase{
		name: "weather ahead of the cancellation", s: example(), events: slices.Insert(exampleEvents(), 3, weather(4, 1, 1)),
		refusals: []api.Errno{api.OK, api.ErrTwice, api.OK, api.OK, api.OK},
		state: api.BkState{
			Lessons: []api.BkLesson{lesson(ann, mini, 57, 2, api.BkCancelled), lesson(ben, van, 34, 1, api.BkOpen)},
			Km:      []int{0, 500}, Since: []int{0, 0}, Accounts: []int{0, 0, 0, 0, 0, 0},
		},
	}.check(t)
	runCase{
		name: "driven and crashed", s: example(), events: append(exampleEvents(), driven(35, 1, 150), crashed(36, 1, 50000)),
		refusals: []api.Errno{api.OK, api.ErrTwice, api.OK, api.OK, api.OK, api.OK},
		state: api.BkState{
			Lessons: []api.BkLesson{lesson(ann, mini, 33, 2, api.BkCancelled), lesson(ben, van, 34, 1, api.BkCrashed)},
			Km:      []int{0, 650}, Since: []int{0, 150}, Accounts: []int{-4000, -4000, -22000, 50000, -20000, 0},
		},
		postings: []api.BkPosting{posted(3, ann, school, 4000), posted(4, ben, school, 4000), posted(5, school, garage, 30000), posted(5, insurer, garage, 20000)},
	}.check(t)
}

// refusalCase is events, and the error of the last one of them. All others are
// done, but for those that skipped tells.
type refusalCase struct {
	s       api.BkSchool
	events  []api.BkEvent
	e       api.Errno
	skipped int
}

// checkRefusals checks the errors of all events of some cases.
func checkRefusals(t *testing.T, cases []refusalCase) {
	t.Helper()
	for i, c := range cases {
		refusals, _, e := book.Run(c.s, c.events)
		if e != api.OK || len(refusals) != len(c.events) {
			t.Errorf("%d: Run = %v, %d", i, refusals, e)
			continue
		}
		last := len(refusals) - 1
		done := 0
		for _, e := range refusals[:last] {
			if e == api.OK {
				done++
			}
		}
		if refusals[last] != c.e || done != last-c.skipped {
			t.Errorf("%d: %v: %v, not %d at the end", i, c.events, refusals, c.e)
		}
	}
}

// list is a list of events.
func list(all ...api.BkEvent) []api.BkEvent { return all }

func TestKindAndTime(t *testing.T) {
	s := allDay()
	kind := func(kind, at int) []api.BkEvent { return list(api.BkEvent{Kind: kind, At: at}) }
	cases := []refusalCase{
		{s, kind(-1, 0), api.ErrArg, 0}, {s, kind(7, 0), api.ErrArg, 0}, {s, kind(7, -1), api.ErrArg, 0}, {s, kind(math.MaxInt, 0), api.ErrArg, 0}, {s, kind(math.MinInt, math.MaxInt), api.ErrArg, 0},
		// A cancellation, a drive and a crash of no lesson, and what is done.
		{s, kind(1, 4800), api.ErrNone, 0}, {s, kind(3, 0), api.ErrNone, 0}, {s, kind(5, 0), api.ErrNone, 0}, {s, kind(2, 0), api.OK, 0}, {s, kind(4, 4800), api.OK, 0}, {s, kind(6, 0), api.OK, 0},
		{s, list(paid(7, ann, 1), paid(7, ann, 1)), api.OK, 0},
		{s, list(paid(7, ann, 1), paid(6, ann, 1)), api.ErrRange, 0},
		{s, list(paid(7, ann, 1), api.BkEvent{Kind: 7, At: 6}), api.ErrArg, 0},
		// What is refused has no time.
		{s, list(paid(7, 2, 1), paid(6, ann, 1)), api.OK, 1},
		{s, list(paid(3, ann, 1), cancelled(7, 0), paid(3, ann, 1)), api.OK, 1},
		{s, list(paid(3, ann, 1), cancelled(7, 0), paid(2, ann, 1)), api.ErrRange, 1},
		{s, list(paid(7, ann, 0), paid(6, ann, 1)), api.ErrRange, 0},
	}
	for kind := range 7 {
		for _, at := range []int{-1, 4801, math.MinInt, math.MaxInt} {
			// All else is wrong, too.
			v := api.BkEvent{Kind: kind, At: at, Learner: -1, Car: -1, Booking: -1, Start: -1, Day: -1, Weather: -1, Km: -1, Cents: -1}
			cases = append(cases, refusalCase{s, list(v), api.ErrRange, 0})
			v.At = 6
			cases = append(cases, refusalCase{s, list(paid(7, ann, 0), v), api.ErrRange, 0})
		}
	}
	checkRefusals(t, cases)
}

func TestBook(t *testing.T) {
	s, d := example(), allDay()
	checkRefusals(t, []refusalCase{
		{s, list(booked(0, 0, 0, 33, 2)), api.OK, 0}, {s, list(booked(0, 1, 1, 33, 4)), api.OK, 0},
		{s, list(booked(40, -1, 0, 33, 0)), api.ErrNone, 0}, {s, list(booked(0, 2, 0, 33, 2)), api.ErrNone, 0}, {s, list(booked(0, 0, -1, -1, 2)), api.ErrNone, 0}, {s, list(booked(0, 0, 2, 33, 2)), api.ErrNone, 0}, {s, list(booked(0, math.MaxInt, math.MinInt, 33, 2)), api.ErrNone, 0},
		{s, list(booked(40, 0, 0, 33, 0)), api.ErrRange, 0}, {s, list(booked(0, 0, 0, 1, 5)), api.ErrRange, 0}, {s, list(booked(0, 0, 0, 33, -1)), api.ErrRange, 0}, {s, list(booked(0, 0, 0, 33, math.MaxInt)), api.ErrRange, 0},
		{s, list(booked(0, 0, 0, -1, 2)), api.ErrRange, 0}, {s, list(booked(0, 0, 0, 4801, 2)), api.ErrRange, 0}, {s, list(booked(0, 0, 0, math.MaxInt, 4)), api.ErrRange, 0}, {s, list(booked(0, 0, 0, math.MinInt, 4)), api.ErrRange, 0},
		// Start is above At.
		{s, list(booked(32, 0, 0, 33, 2)), api.OK, 0}, {s, list(booked(33, 0, 0, 33, 2)), api.ErrArg, 0}, {s, list(booked(34, 0, 0, 33, 2)), api.ErrArg, 0}, {d, list(booked(0, 0, 0, 0, 1)), api.ErrArg, 0}, {d, list(booked(0, 0, 0, 1, 1)), api.OK, 0},
		// It fits.
		{s, list(booked(0, 0, 0, 32, 1)), api.OK, 0}, {s, list(booked(0, 0, 0, 31, 1)), api.ErrArg, 0}, {s, list(booked(0, 0, 0, 31, 4)), api.ErrArg, 0}, {s, list(booked(0, 0, 0, 40, 4)), api.OK, 0}, {s, list(booked(0, 0, 0, 41, 4)), api.ErrArg, 0}, {s, list(booked(0, 0, 0, 43, 1)), api.OK, 0}, {s, list(booked(0, 0, 0, 43, 2)), api.ErrArg, 0}, {s, list(booked(0, 0, 0, 44, 1)), api.ErrArg, 0},
		{d, list(booked(0, 0, 0, 44, 4)), api.OK, 0}, {d, list(booked(0, 0, 0, 45, 4)), api.ErrArg, 0}, {d, list(booked(0, 0, 0, 47, 1)), api.OK, 0}, {d, list(booked(0, 0, 0, 47, 2)), api.ErrArg, 0}, {d, list(booked(0, 0, 0, 48, 4)), api.OK, 0},
		{d, list(booked(0, 0, 0, 4796, 4)), api.OK, 0}, {d, list(booked(0, 0, 0, 4797, 4)), api.ErrArg, 0}, {d, list(booked(0, 0, 0, 4799, 1)), api.OK, 0}, {d, list(booked(0, 0, 0, 4800, 1)), api.OK, 0}, {s, list(booked(0, 0, 0, 4800, 1)), api.ErrArg, 0},
		// The car is driven in all weathers of the day.
		{d, list(weather(0, 1, 1), booked(0, 0, mini, 33, 2)), api.ErrDown, 0}, {d, list(weather(0, 1, 1), booked(0, 0, van, 33, 2)), api.OK, 0}, {d, list(weather(0, 1, 2), booked(0, 0, mini, 33, 2)), api.OK, 0}, {d, list(weather(0, 1, 0), weather(0, 1, 1), weather(0, 1, 2), booked(0, 0, mini, 33, 2)), api.ErrDown, 0},
		{d, list(weather(0, 0, 1), weather(0, 2, 1), booked(0, 0, mini, 24, 4)), api.OK, 0}, {d, list(weather(0, 0, 1), weather(0, 2, 1), booked(0, 0, mini, 44, 4)), api.OK, 0}, {d, list(weather(0, 1, 1), booked(0, 0, mini, 24, 1)), api.ErrDown, 0}, {d, list(weather(0, 1, 1), booked(0, 0, mini, 47, 1)), api.ErrDown, 0},
		{d, list(weather(0, 1, 7), booked(0, 0, van, 33, 1)), api.ErrDown, 0}, {d, list(weather(0, 200, 3), booked(0, 0, van, 4800, 1)), api.ErrDown, 0}, {d, list(weather(30, 1, 1), booked(30, 0, mini, 30, 1)), api.ErrArg, 0}, {d, list(weather(30, 1, 1), booked(30, 0, mini, 47, 2)), api.ErrArg, 0},
		// What is in the way.
		{d, list(booked(0, ann, mini, 33, 2), booked(0, ann, van, 33, 2)), api.ErrTwice, 0}, {d, list(booked(0, ann, mini, 33, 2), booked(0, ben, mini, 33, 2)), api.ErrTwice, 0}, {d, list(booked(0, ann, mini, 33, 2), booked(0, ben, van, 33, 2)), api.OK, 0},
		{d, list(booked(0, ann, mini, 33, 2), booked(0, ann, mini, 35, 2)), api.OK, 0}, {d, list(booked(0, ann, mini, 33, 2), booked(0, ann, mini, 34, 2)), api.ErrTwice, 0}, {d, list(booked(0, ann, mini, 33, 2), booked(0, ben, mini, 31, 2)), api.OK, 0}, {d, list(booked(0, ann, mini, 33, 2), booked(0, ben, mini, 31, 3)), api.ErrTwice, 0},
		{d, list(booked(0, ann, mini, 33, 4), booked(0, ben, mini, 34, 1)), api.ErrTwice, 0}, {d, list(booked(0, ann, mini, 34, 1), booked(0, ann, van, 33, 4)), api.ErrTwice, 0}, {d, list(booked(0, ann, mini, 33, 2), booked(0, ann, mini, 57, 2)), api.OK, 0},
		{d, list(booked(0, ben, van, 40, 2), booked(0, ann, mini, 33, 2), booked(0, ann, van, 33, 2)), api.ErrTwice, 0}, {d, list(booked(0, ann, mini, 33, 2), weather(0, 1, 1), booked(0, ben, mini, 34, 1)), api.ErrDown, 0},
		// What was cancelled, or moved, is not.
		{d, list(booked(0, ann, mini, 33, 2), cancelled(0, 0), booked(0, ann, mini, 33, 2)), api.OK, 0}, {d, list(booked(0, ann, mini, 33, 2), weather(0, 1, 1), booked(0, ann, van, 33, 2)), api.OK, 0}, {d, list(booked(0, ann, mini, 33, 2), weather(0, 1, 1), booked(0, ann, van, 57, 2)), api.ErrTwice, 0},
	})
}

func TestCancel(t *testing.T) {
	s := example()
	one := booked(0, ann, mini, 33, 2)
	checkRefusals(t, []refusalCase{
		{s, list(one, cancelled(0, 0)), api.OK, 0}, {s, list(one, cancelled(32, 0)), api.OK, 0}, {s, list(one, cancelled(33, 0)), api.ErrArg, 0}, {s, list(one, cancelled(40, 0)), api.ErrArg, 0},
		{s, list(one, cancelled(0, 1)), api.ErrNone, 0}, {s, list(one, cancelled(0, -1)), api.ErrNone, 0}, {s, list(one, cancelled(40, math.MaxInt)), api.ErrNone, 0}, {s, list(one, cancelled(40, math.MinInt)), api.ErrNone, 0},
		{s, list(one, cancelled(1, 0), cancelled(1, 0)), api.ErrNone, 0}, {s, list(one, driven(35, 0, 1), cancelled(35, 0)), api.ErrNone, 0}, {s, list(one, driven(35, 0, 1), crashed(35, 0, 1), cancelled(35, 0)), api.ErrNone, 0},
		// A lesson that was moved has begun when it begins then.
		{s, list(one, weather(0, 1, 1), cancelled(56, 0)), api.OK, 0}, {s, list(one, weather(0, 1, 1), cancelled(57, 0)), api.ErrArg, 0},
	})
	for _, c := range []struct{ at, fee int }{{0, 4000}, {9, 4000}, {10, 8000}, {32, 8000}} {
		runCase{
			name: "cancelled", s: s, events: list(one, cancelled(c.at, 0)), refusals: []api.Errno{0, 0},
			state:    api.BkState{Lessons: []api.BkLesson{lesson(ann, mini, 33, 2, api.BkCancelled)}, Km: []int{0, 500}, Since: []int{0, 0}, Accounts: []int{-c.fee, 0, c.fee, 0, 0, 0}},
			postings: []api.BkPosting{posted(1, ann, school, c.fee)},
		}.check(t)
	}
}

func TestWeather(t *testing.T) {
	s := allDay()
	checkRefusals(t, []refusalCase{
		{s, list(weather(0, 0, 0)), api.OK, 0}, {s, list(weather(0, 200, 7)), api.OK, 0}, {s, list(weather(4800, 5, 7)), api.OK, 0}, {s, list(weather(0, 5, 1), weather(0, 5, 1)), api.OK, 0},
		{s, list(weather(0, -1, 0)), api.ErrRange, 0}, {s, list(weather(0, 201, 0)), api.ErrRange, 0}, {s, list(weather(0, 0, -1)), api.ErrRange, 0}, {s, list(weather(0, 0, 8)), api.ErrRange, 0}, {s, list(weather(0, math.MaxInt, 0)), api.ErrRange, 0}, {s, list(weather(0, 0, math.MinInt)), api.ErrRange, 0}, {s, list(weather(0, 0, math.MaxInt)), api.ErrRange, 0},
	})
}

// TestMoved checks where lessons are after weathers.
func TestMoved(t *testing.T) {
	s := allDay()
	one := booked(0, ann, mini, 33, 2)
	for i, c := range []struct {
		events []api.BkEvent
		want   []api.BkLesson
	}{
		{list(one, weather(0, 1, 1)), []api.BkLesson{lesson(ann, mini, 57, 2, 0)}},
		{list(one, weather(0, 1, 2)), []api.BkLesson{lesson(ann, mini, 33, 2, 0)}},
		{list(one, weather(0, 1, 7)), []api.BkLesson{lesson(ann, mini, 33, 2, 0)}},
		{list(one, weather(0, 0, 1), weather(0, 2, 1)), []api.BkLesson{lesson(ann, mini, 33, 2, 0)}},
		{list(booked(0, ann, mini, 24, 4), booked(0, ben, mini, 44, 4), weather(0, 1, 1)), []api.BkLesson{lesson(ann, mini, 48, 4, 0), lesson(ben, mini, 68, 4, 0)}},
		// Only what has not begun is moved.
		{list(one, weather(32, 1, 1)), []api.BkLesson{lesson(ann, mini, 57, 2, 0)}},
		{list(one, weather(33, 1, 1)), []api.BkLesson{lesson(ann, mini, 33, 2, 0)}},
		{list(one, weather(34, 1, 1)), []api.BkLesson{lesson(ann, mini, 33, 2, 0)}},
		{list(one, weather(40, 1, 1)), []api.BkLesson{lesson(ann, mini, 33, 2, 0)}},
		// Only what is open is moved, and in the way.
		{list(one, cancelled(0, 0), weather(0, 1, 1)), []api.BkLesson{lesson(ann, mini, 33, 2, 1)}},
		{list(one, booked(0, ben, mini, 57, 2), cancelled(0, 1), weather(0, 1, 1)), []api.BkLesson{lesson(ann, mini, 57, 2, 0), lesson(ben, mini, 57, 2, 1)}},
		// Days with a weather in which the car is not driven are skipped.
		{list(one, weather(0, 2, 1), weather(0, 1, 1)), []api.BkLesson{lesson(ann, mini, 81, 2, 0)}},
		{list(one, weather(0, 2, 3), weather(0, 2, 0), weather(0, 3, 1), weather(0, 1, 1)), []api.BkLesson{lesson(ann, mini, 105, 2, 0)}},
		{list(one, weather(0, 2, 7), weather(0, 1, 1)), []api.BkLesson{lesson(ann, mini, 57, 2, 0)}},
		{list(one, weather(0, 1, 1), weather(0, 2, 1)), []api.BkLesson{lesson(ann, mini, 81, 2, 0)}},
		{list(one, weather(0, 1, 1), weather(0, 1, 3)), []api.BkLesson{lesson(ann, mini, 57, 2, 0)}},
		// Other lessons of the learner, or of the car, are in the way.
		{list(one, booked(0, ben, mini, 58, 1), weather(0, 1, 1)), []api.BkLesson{lesson(ann, mini, 81, 2, 0), lesson(ben, mini, 58, 1, 0)}},
		{list(one, booked(0, ann, van, 54, 4), weather(0, 1, 1)), []api.BkLesson{lesson(ann, mini, 81, 2, 0), lesson(ann, van, 54, 4, 0)}},
		{list(one, booked(0, ben, van, 57, 2), weather(0, 1, 1)), []api.BkLesson{lesson(ann, mini, 57, 2, 0), lesson(ben, van, 57, 2, 0)}},
		{list(one, booked(0, ben, mini, 59, 2), booked(0, ann, van, 53, 4), weather(0, 1, 1)), []api.BkLesson{lesson(ann, mini, 57, 2, 0), lesson(ben, mini, 59, 2, 0), lesson(ann, van, 53, 4, 0)}},
		// Lessons of one learner in two cars are moved by the same weather.
		{list(one, booked(0, ann, van, 35, 4), weather(0, 1, 3)), []api.BkLesson{lesson(ann, mini, 57, 2, 0), lesson(ann, van, 59, 4, 0)}},
		// Nothing ends behind the last hour.
		{list(booked(0, ann, mini, 4772, 4), weather(0, 198, 1)), []api.BkLesson{lesson(ann, mini, 4796, 4, 0)}},
		{list(booked(0, ann, mini, 4776, 1), weather(0, 199, 1)), []api.BkLesson{lesson(ann, mini, 4776, 1, 1)}},
		{list(booked(0, ann, mini, 4776, 4), weather(0, 199, 1)), []api.BkLesson{lesson(ann, mini, 4776, 4, 1)}},
		{list(booked(0, ann, mini, 4799, 1), weather(0, 199, 1)), []api.BkLesson{lesson(ann, mini, 4799, 1, 1)}},
		{list(booked(0, ann, mini, 4800, 1), weather(0, 200, 1)), []api.BkLesson{lesson(ann, mini, 4800, 1, 1)}},
		{list(booked(0, ann, mini, 4775, 1), weather(0, 198, 1)), []api.BkLesson{lesson(ann, mini, 4799, 1, 0)}},
		{list(booked(0, ann, mini, 4775, 1), weather(0, 199, 3), weather(0, 198, 1)), []api.BkLesson{lesson(ann, mini, 4775, 1, 1)}},
		{list(booked(0, ann, mini, 4775, 1), booked(0, ben, mini, 4799, 1), weather(0, 198, 1)), []api.BkLesson{lesson(ann, mini, 4775, 1, 1), lesson(ben, mini, 4799, 1, 0)}},
	} {
		want := runCase{name: "moved", s: s, events: c.events, refusals: make([]api.Errno, len(c.events))}
		want.state = api.BkState{Lessons: c.want, Km: []int{0, 500}, Since: []int{0, 0}, Accounts: make([]int, 6)}
		// Who cancels pays, but for moving nobody does.
		for at, v := range c.events {
			if v.Kind != api.BkCancel {
				continue
			}
			whose := c.want[v.Booking]
			if fee := feeByTheDocument(s, whose.Hours, whose.Start); fee > 0 {
				want.postings = append(want.postings, posted(at, whose.Learner, school, fee))
				want.state.Accounts[whose.Learner] -= fee
				want.state.Accounts[school] += fee
			}
		}
		if refusals, state, e := book.Run(s, c.events); e != api.OK || !slices.Equal(state.Lessons, c.want) {
			t.Errorf("%d: Run = %v, %v, %d, not %v", i, refusals, state, e, c.want)
		}
		want.check(t)
	}
}

func TestDrive(t *testing.T) {
	s := example()
	one, two := booked(0, ann, mini, 33, 2), booked(0, ann, mini, 57, 1)
	checkRefusals(t, []refusalCase{
		{s, list(one, driven(35, 0, 0)), api.OK, 0}, {s, list(one, driven(4800, 0, 400)), api.OK, 0}, {s, list(one, driven(34, 0, -1)), api.ErrArg, 0}, {s, list(one, driven(33, 0, 5)), api.ErrArg, 0}, {s, list(one, driven(0, 0, 5)), api.ErrArg, 0},
		{s, list(one, driven(34, 1, 5)), api.ErrNone, 0}, {s, list(one, driven(34, -1, 5)), api.ErrNone, 0}, {s, list(one, driven(34, math.MaxInt, 5)), api.ErrNone, 0}, {s, list(one, driven(34, math.MinInt, 5)), api.ErrNone, 0},
		{s, list(one, cancelled(0, 0), driven(34, 0, 5)), api.ErrNone, 0}, {s, list(one, driven(35, 0, 5), driven(35, 0, 5)), api.ErrNone, 0}, {s, list(one, driven(35, 0, 5), crashed(35, 0, 5), driven(35, 0, 5)), api.ErrNone, 0},
		{s, list(one, driven(35, 0, -1)), api.ErrRange, 0}, {s, list(one, driven(35, 0, 401)), api.ErrRange, 0}, {s, list(one, driven(35, 0, math.MaxInt)), api.ErrRange, 0}, {s, list(one, driven(35, 0, math.MinInt)), api.ErrRange, 0},
		// A lesson that was moved ends later.
		{s, list(one, weather(0, 1, 1), driven(58, 0, 5)), api.ErrArg, 0}, {s, list(one, weather(0, 1, 1), driven(59, 0, 5)), api.OK, 0},
		// A car that has just the kilometres of Every is driven, and not with more.
		{s, list(one, two, driven(35, 0, 100), driven(58, 1, 400)), api.OK, 0}, {s, list(one, two, driven(35, 0, 101), driven(58, 1, 0)), api.ErrDown, 0}, {s, list(one, two, driven(35, 0, 101), driven(58, 1, 401)), api.ErrRange, 0}, {s, list(one, two, driven(35, 0, 101), driven(57, 1, 0)), api.ErrArg, 0},
		{s, list(one, two, driven(35, 0, 400), serviced(58, mini, 0), driven(58, 1, 1)), api.OK, 0}, {s, list(one, two, driven(35, 0, 400), serviced(58, van, 0), driven(58, 1, 1)), api.ErrDown, 0}, {s, list(one, booked(0, ann, van, 57, 1), driven(35, 0, 400), driven(58, 1, 1)), api.OK, 0},
	})
	runCase{
		name: "driven", s: s, events: list(one, two, booked(0, ben, van, 57, 4), driven(60, 0, 60), driven(60, 1, 40), driven(61, 2, 0)), refusals: make([]api.Errno, 6),
		state: api.BkState{
			Lessons: []api.BkLesson{lesson(ann, mini, 33, 2, 2), lesson(ann, mini, 57, 1, 2), lesson(ben, van, 57, 4, 2)},
			Km:      []int{100, 500}, Since: []int{100, 0}, Accounts: []int{-12000, -16000, 28000, 0, 0, 0},
		},
		postings: []api.BkPosting{posted(3, ann, school, 8000), posted(4, ann, school, 4000), posted(5, ben, school, 16000)},
	}.check(t)
	s.Cars[mini].Km = 1000000
	runCase{
		name: "more than a million kilometres", s: s, events: list(one, driven(60, 0, 400)), refusals: make([]api.Errno, 2),
		state:    api.BkState{Lessons: []api.BkLesson{lesson(ann, mini, 33, 2, 2)}, Km: []int{1000400, 500}, Since: []int{400, 0}, Accounts: []int{-8000, 0, 8000, 0, 0, 0}},
		postings: []api.BkPosting{posted(1, ann, school, 8000)},
	}.check(t)
}

func TestServiceAndPay(t *testing.T) {
	s := example()
	checkRefusals(t, []refusalCase{
		{s, list(serviced(0, 0, 0)), api.OK, 0}, {s, list(serviced(0, 1, 10000000)), api.OK, 0}, {s, list(serviced(0, -1, -1)), api.ErrNone, 0}, {s, list(serviced(0, 2, -1)), api.ErrNone, 0}, {s, list(serviced(0, 0, -1)), api.ErrRange, 0}, {s, list(serviced(0, 0, 10000001)), api.ErrRange, 0}, {s, list(serviced(0, math.MaxInt, 1)), api.ErrNone, 0}, {s, list(serviced(0, 0, math.MinInt)), api.ErrRange, 0},
		{s, list(paid(0, 0, 0)), api.OK, 0}, {s, list(paid(0, 1, 10000000)), api.OK, 0}, {s, list(paid(0, -1, -1)), api.ErrNone, 0}, {s, list(paid(0, 2, -1)), api.ErrNone, 0}, {s, list(paid(0, 0, -1)), api.ErrRange, 0}, {s, list(paid(0, 0, 10000001)), api.ErrRange, 0}, {s, list(paid(0, math.MinInt, 1)), api.ErrNone, 0}, {s, list(paid(0, 0, math.MaxInt)), api.ErrRange, 0},
	})
	runCase{
		name: "serviced and paid", s: s,
		events:   list(booked(0, ann, mini, 33, 1), booked(0, ben, van, 33, 1), driven(34, 0, 10), driven(34, 1, 20), serviced(34, van, 700), serviced(34, van, 0), paid(34, ben, 5000), paid(34, ann, 0), paid(34, ann, 1)),
		refusals: make([]api.Errno, 9),
		state:    api.BkState{Lessons: []api.BkLesson{lesson(ann, mini, 33, 1, 2), lesson(ben, van, 33, 1, 2)}, Km: []int{10, 520}, Since: []int{10, 0}, Accounts: []int{-3999, 1000, 7300, 700, 0, -5001}},
		postings: []api.BkPosting{posted(2, ann, school, 4000), posted(3, ben, school, 4000), posted(4, school, garage, 700), posted(6, world, ben, 5000), posted(8, world, ann, 1)},
	}.check(t)
}

func TestCrash(t *testing.T) {
	s := example()
	one := booked(0, ann, mini, 33, 2)
	checkRefusals(t, []refusalCase{
		{s, list(one, driven(35, 0, 1), crashed(35, 0, 0)), api.OK, 0}, {s, list(one, driven(35, 0, 1), crashed(35, 0, 10000000)), api.OK, 0}, {s, list(one, driven(35, 0, 1), crashed(35, 0, -1)), api.ErrRange, 0}, {s, list(one, driven(35, 0, 1), crashed(35, 0, 10000001)), api.ErrRange, 0},
		{s, list(one, crashed(35, 0, -1)), api.ErrNone, 0}, {s, list(one, cancelled(0, 0), crashed(35, 0, 1)), api.ErrNone, 0}, {s, list(one, driven(35, 0, 1), crashed(35, 0, 0), crashed(35, 0, 1)), api.ErrNone, 0}, {s, list(one, driven(35, 0, 1), crashed(35, 1, 1)), api.ErrNone, 0}, {s, list(one, driven(35, 0, 1), crashed(35, -1, 1)), api.ErrNone, 0}, {s, list(one, driven(35, 0, 1), crashed(35, math.MaxInt, 1)), api.ErrNone, 0},
	})
	for _, c := range []struct{ excess, cents, own, others int }{
		{30000, 0, 0, 0}, {30000, 1, 1, 0}, {30000, 29999, 29999, 0}, {30000, 30000, 30000, 0}, {30000, 30001, 30000, 1}, {30000, 10000000, 30000, 9970000}, {0, 0, 0, 0}, {0, 5, 0, 5}, {10000000, 10000000, 10000000, 0},
	} {
		s.Excess = c.excess
		want := []api.BkPosting{posted(1, ann, school, 8000)}
		if c.own > 0 {
			want = append(want, posted(2, school, garage, c.own))
		}
		if c.others > 0 {
			want = append(want, posted(2, insurer, garage, c.others))
		}
		runCase{
			name: "crashed", s: s, events: list(one, driven(35, 0, 7), crashed(35, 0, c.cents)), refusals: make([]api.Errno, 3), postings: want,
			state: api.BkState{Lessons: []api.BkLesson{lesson(ann, mini, 33, 2, 3)}, Km: []int{7, 500}, Since: []int{7, 0}, Accounts: []int{-8000, 0, 8000 - c.own, c.cents, -c.others, 0}},
		}.check(t)
	}
}

// TestOtherFields checks that fields of an event that its kind does not look at
// may be anything.
func TestOtherFields(t *testing.T) {
	events := append(exampleEvents(), weather(5, 1, 0), driven(35, 1, 150), crashed(36, 1, 50000), serviced(36, van, 5), paid(36, ben, 6))
	_, want, _ := book.Run(example(), events)
	for _, n := range []int{-1, 9999, math.MinInt, math.MaxInt} {
		for i, v := range events {
			odd := api.BkEvent{Kind: v.Kind, At: v.At, Learner: n, Car: n, Booking: n, Start: n, Hours: n, Day: n, Weather: n, Km: n, Cents: n}
			switch v.Kind {
			case api.BkBook:
				odd.Learner, odd.Car, odd.Start, odd.Hours = v.Learner, v.Car, v.Start, v.Hours
			case api.BkCancel:
				odd.Booking = v.Booking
			case api.BkWeather:
				odd.Day, odd.Weather = v.Day, v.Weather
			case api.BkDrive:
				odd.Booking, odd.Km = v.Booking, v.Km
			case api.BkService:
				odd.Car, odd.Cents = v.Car, v.Cents
			case api.BkCrash:
				odd.Booking, odd.Cents = v.Booking, v.Cents
			case api.BkPay:
				odd.Learner, odd.Cents = v.Learner, v.Cents
			}
			events[i] = odd
		}
		if refusals, state, e := book.Run(example(), events); !slices.Equal(refusals, []api.Errno{0, api.ErrTwice, 0, 0, 0, 0, 0, 0, 0}) || !sameState(state, want) || e != api.OK {
			t.Errorf("Run with %d = %v, %v, %d", n, refusals, state, e)
		}
	}
}

// TestManyEvents checks that 60 events are accepted, and not 61.
func TestManyEvents(t *testing.T) {
	sixty := slices.Repeat(list(paid(1, ann, 10000000)), 60)
	refusals, state, e := book.Run(example(), sixty)
	if len(refusals) != 60 || !slices.Equal(state.Accounts, []int{600000000, 0, 0, 0, 0, -600000000}) || e != api.OK {
		t.Errorf("Run of 60 events = %v, %v, %d", refusals, state, e)
	}
	if postings, e := book.Postings(example(), sixty); len(postings) != 60 || e != api.OK {
		t.Errorf("Postings of 60 events = %v, %d", postings, e)
	}
	if hour, e := book.First(example(), sixty, ann, mini, 0, 1); hour != 8 || e != api.OK {
		t.Errorf("First after 60 events = %d, %d", hour, e)
	}
	many := append(sixty, api.BkEvent{Kind: 9})
	if refusals, state, e := book.Run(example(), many); refusals != nil || !sameState(state, api.BkState{}) || e != api.ErrLong {
		t.Errorf("Run of 61 events = %v, %v, %d", refusals, state, e)
	}
	if postings, e := book.Postings(example(), many); postings != nil || e != api.ErrLong {
		t.Errorf("Postings of 61 events = %v, %d", postings, e)
	}
	if hour, e := book.First(example(), many, ann, mini, 0, 1); hour != 0 || e != api.ErrLong {
		t.Errorf("First after 61 events = %d, %d", hour, e)
	}
}

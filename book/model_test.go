package book_test

import (
	"math/rand"
	"slices"
	"testing"

	"bitepoint/api"
	"bitepoint/book"
)

// booked is a lesson that somebody wants.
func booked(at, learner, car, start, hours int) api.BkEvent {
	return api.BkEvent{Kind: api.BkBook, At: at, Learner: learner, Car: car, Start: start, Hours: hours}
}

// cancelled is that a lesson is cancelled.
func cancelled(at, booking int) api.BkEvent {
	return api.BkEvent{Kind: api.BkCancel, At: at, Booking: booking}
}

// weather is that a day has a weather.
func weather(at, day, weather int) api.BkEvent {
	return api.BkEvent{Kind: api.BkWeather, At: at, Day: day, Weather: weather}
}

// driven is that a lesson was driven.
func driven(at, booking, km int) api.BkEvent {
	return api.BkEvent{Kind: api.BkDrive, At: at, Booking: booking, Km: km}
}

// serviced is that a car was serviced.
func serviced(at, car, cents int) api.BkEvent {
	return api.BkEvent{Kind: api.BkService, At: at, Car: car, Cents: cents}
}

// crashed is that a lesson has crashed.
func crashed(at, booking, cents int) api.BkEvent {
	return api.BkEvent{Kind: api.BkCrash, At: at, Booking: booking, Cents: cents}
}

// paid is that a learner has paid.
func paid(at, learner, cents int) api.BkEvent {
	return api.BkEvent{Kind: api.BkPay, At: at, Learner: learner, Cents: cents}
}

// lesson is a lesson that was booked.
func lesson(learner, car, start, hours, state int) api.BkLesson {
	return api.BkLesson{Learner: learner, Car: car, Start: start, Hours: hours, State: state}
}

// model is what there is after some events: a reading of the document that
// keeps lists of what was done, and works the rest out of them.
type model struct {
	s        api.BkSchool
	lessons  []api.BkLesson
	weathers [][2]int        // a day, and a weather of it
	drives   [][3]int        // a car, its kilometres, and whether they are since the last service
	postings []api.BkPosting // of all accounts
	times    []int           // of the events that were done, behind a 0
}

// newModel is what there is before all events.
func newModel(s api.BkSchool) *model { return &model{s: s, times: []int{0}} }

// time is the time.
func (m *model) time() int { return slices.Max(m.times) }

// hoursOf is all hours of a lesson.
func hoursOf(l api.BkLesson) []int {
	var hours []int
	for i := range l.Hours {
		hours = append(hours, l.Start+i)
	}
	return hours
}

// share reports whether two lessons have an hour in common.
func share(a, b api.BkLesson) bool {
	return slices.ContainsFunc(hoursOf(a), func(hour int) bool { return slices.Contains(hoursOf(b), hour) })
}

// isBad reports whether the car of a lesson is not driven in some weather of
// its day.
func (m *model) isBad(l api.BkLesson) bool {
	return slices.ContainsFunc(m.weathers, func(w [2]int) bool { return w[0] == l.Start/24 && m.isNever(l.Car, w[1]) })
}

// isNever reports whether a car is not driven in a weather.
func (m *model) isNever(car, weather int) bool {
	return []int{1, 2, 4, 8, 16, 32, 64, 128}[weather]&m.s.Cars[car].Never != 0
}

// isTaken reports whether a lesson that is open, but not that with a number,
// is in the way of a lesson.
func (m *model) isTaken(l api.BkLesson, number int) bool {
	for i, other := range m.lessons {
		theirs := other.Learner == l.Learner || other.Car == l.Car
		if i != number && other.State == 0 && theirs && share(l, other) {
			return true
		}
	}
	return false
}

// isOutside reports whether a lesson does not fit.
func (m *model) isOutside(l api.BkLesson) bool {
	hours := hoursOf(l)
	first, last := hours[0], hours[len(hours)-1]
	return first/24 != last/24 || first%24 < m.s.Open.Lo || last%24+1 > m.s.Open.Hi
}

// since is how many kilometres a car has since its last service.
func (m *model) since(car int) int {
	sum := 0
	for _, d := range m.drives {
		if d[0] == car {
			sum += d[1] * d[2]
		}
	}
	return sum
}

// wrong is an error, and whether it applies; it is asked only if none before
// it does.
type wrong struct {
	is func() bool
	e  api.Errno
}

// inside reports whether a number is from lo to hi.
func inside(lo, n, hi int) bool { return n >= lo && n <= hi }

// wrongs are the errors of an event, in their order.
func (m *model) wrongs(v api.BkEvent) []wrong {
	noLearner := func() bool { return !inside(0, v.Learner, len(m.s.Learners)-1) }
	noCar := func() bool { return !inside(0, v.Car, len(m.s.Cars)-1) }
	noCents := func() bool { return !inside(0, v.Cents, 10000000) }
	noLesson := func(state int) func() bool {
		return func() bool { return !inside(0, v.Booking, len(m.lessons)-1) || m.lessons[v.Booking].State != state }
	}
	l := lesson(v.Learner, v.Car, v.Start, v.Hours, 0)
	all := []wrong{
		{func() bool { return !inside(0, v.Kind, 6) }, api.ErrArg},
		{func() bool { return !inside(0, v.At, 4800) || v.At < m.time() }, api.ErrRange},
	}
	switch v.Kind {
	case 0:
		return append(all,
			wrong{func() bool { return noLearner() || noCar() }, api.ErrNone},
			wrong{func() bool { return !inside(1, v.Hours, 4) || !inside(0, v.Start, 4800) }, api.ErrRange},
			wrong{func() bool { return v.Start <= v.At || m.isOutside(l) }, api.ErrArg},
			wrong{func() bool { return m.isBad(l) }, api.ErrDown},
			wrong{func() bool { return m.isTaken(l, -1) }, api.ErrTwice})
	case 1:
		return append(all, wrong{noLesson(0), api.ErrNone}, wrong{func() bool { return v.At >= m.lessons[v.Booking].Start }, api.ErrArg})
	case 2:
		return append(all, wrong{func() bool { return !inside(0, v.Day, 200) || !inside(0, v.Weather, 7) }, api.ErrRange})
	case 3:
		return append(all, wrong{noLesson(0), api.ErrNone},
			wrong{func() bool { return v.At <= slices.Max(hoursOf(m.lessons[v.Booking])) }, api.ErrArg},
			wrong{func() bool { return !inside(0, v.Km, 400) }, api.ErrRange},
			wrong{func() bool { car := m.lessons[v.Booking].Car; return m.since(car) > m.s.Cars[car].Every }, api.ErrDown})
	case 4:
		return append(all, wrong{noCar, api.ErrNone}, wrong{noCents, api.ErrRange})
	case 5:
		return append(all, wrong{noLesson(2), api.ErrNone}, wrong{noCents, api.ErrRange})
	}
	return append(all, wrong{noLearner, api.ErrNone}, wrong{noCents, api.ErrRange})
}

// tell tells an event, and returns its error.
func (m *model) tell(index int, v api.BkEvent) api.Errno {
	for _, w := range m.wrongs(v) {
		if w.is() {
			return w.e
		}
	}
	m.times = append(m.times, v.At)
	n := len(m.s.Learners)
	post := func(from, to, cents int) {
		if cents > 0 {
			m.postings = append(m.postings, api.BkPosting{Event: index, From: from, To: to, Cents: cents})
		}
	}
	switch v.Kind {
	case 0:
		m.lessons = append(m.lessons, lesson(v.Learner, v.Car, v.Start, v.Hours, 0))
	case 1:
		l := m.lessons[v.Booking]
		m.lessons[v.Booking].State = 1
		post(l.Learner, n, feeByTheDocument(m.s, l.Hours, l.Start-v.At))
	case 2:
		m.weathers = append(m.weathers, [2]int{v.Day, v.Weather})
		for i, l := range m.lessons {
			if l.State == 0 && l.Start/24 == v.Day && l.Start > v.At && m.isNever(l.Car, v.Weather) {
				m.move(i)
			}
		}
	case 3:
		l := m.lessons[v.Booking]
		m.lessons[v.Booking].State = 2
		m.drives = append(m.drives, [3]int{l.Car, v.Km, 1})
		post(l.Learner, n, l.Hours*m.s.Price)
	case 4:
		for i := range m.drives {
			if m.drives[i][0] == v.Car {
				m.drives[i][2] = 0
			}
		}
		post(n, n+1, v.Cents)
	case 5:
		m.lessons[v.Booking].State = 3
		if v.Cents <= m.s.Excess {
			post(n, n+1, v.Cents)
		} else {
			post(n, n+1, m.s.Excess)
			post(n+2, n+1, v.Cents-m.s.Excess)
		}
	case 6:
		post(n+3, v.Learner, v.Cents)
	}
	return api.OK
}

// move moves a lesson.
func (m *model) move(number int) {
	for days := 1; days <= 200; days++ {
		l := m.lessons[number]
		l.Start += 24 * days
		if l.Start+l.Hours <= 4800 && !m.isBad(l) && !m.isTaken(l, number) {
			m.lessons[number] = l
			return
		}
	}
	m.lessons[number].State = 1
}

// first is the first hour at which a lesson can be booked.
func (m *model) first(learner, car, from, hours int) (int, api.Errno) {
	for hour := from; hour <= 4800; hour++ {
		wrongs := m.wrongs(booked(m.time(), learner, car, hour, hours))
		if !slices.ContainsFunc(wrongs, func(w wrong) bool { return w.is() }) {
			return hour, api.OK
		}
	}
	return 0, api.ErrDown
}

// state is what there is.
func (m *model) state() api.BkState {
	state := api.BkState{Lessons: m.lessons, Accounts: make([]int, len(m.s.Learners)+4)}
	for i, car := range m.s.Cars {
		km := car.Km
		for _, d := range m.drives {
			if d[0] == i {
				km += d[1]
			}
		}
		state.Km, state.Since = append(state.Km, km), append(state.Since, m.since(i))
	}
	for _, p := range m.postings {
		state.Accounts[p.From] -= p.Cents
		state.Accounts[p.To] += p.Cents
	}
	return state
}

// sameState reports whether all is the same, nil and empty lists too.
func sameState(a, b api.BkState) bool {
	return slices.Equal(a.Lessons, b.Lessons) && slices.Equal(a.Km, b.Km) && slices.Equal(a.Since, b.Since) && slices.Equal(a.Accounts, b.Accounts)
}

// randomSchool is a school without an error.
func randomSchool(r *rand.Rand) api.BkSchool {
	s := api.BkSchool{Learners: names(1 + r.Intn(4)), Price: 1 + r.Intn(60), Excess: r.Intn(500), Open: api.Span{Lo: r.Intn(20), Hi: 24}}
	s.Open.Hi -= r.Intn(20 - s.Open.Lo)
	for _, name := range names(1 + r.Intn(3)) {
		s.Cars = append(s.Cars, api.BkCar{Name: name, Km: r.Intn(1000), Every: 1 + r.Intn(400), Never: r.Intn(256) & r.Intn(256)})
	}
	before, fee := 1+r.Intn(240), 0
	for before > 0 && len(s.Terms) < r.Intn(6) && len(s.Terms) < 4 {
		before, fee = r.Intn(before), fee+r.Intn(1001-fee)
		s.Terms = append(s.Terms, api.BkTerm{Before: before, Fee: fee})
	}
	return s
}

// events is a stream of random events: most of them on few days, so that
// lessons are in each other's way.
type events struct {
	*rand.Rand
	*model
	day int
}

// hour is an hour of one of the days.
func (r *events) hour() int { return (r.day+r.Intn(3))*24 + r.Intn(24) }

// fitting is an hour of one of the days in which the school is open.
func (r *events) fitting() int {
	return (r.day+r.Intn(3))*24 + r.s.Open.Lo + r.Intn(r.s.Open.Hi-r.s.Open.Lo)
}

// booking is the number of a lesson, mostly one in a state.
func (r *events) booking(state int) int {
	for range 4 {
		if number := r.Intn(len(r.lessons) + 1); number < len(r.lessons) && r.lessons[number].State == state {
			return number
		}
	}
	return r.Intn(len(r.lessons) + 1)
}

// next is the next event, early or late among them.
func (r *events) next(late bool) api.BkEvent {
	kinds := []int{0, 0, 0, 0, 1, 2, 2, 4, 6}
	if late {
		kinds = []int{0, 0, 1, 2, 3, 3, 3, 3, 4, 5, 5, 6}
	}
	v := api.BkEvent{Kind: kinds[r.Intn(len(kinds))], At: r.time(), Learner: r.Intn(len(r.s.Learners)), Car: r.Intn(len(r.s.Cars)), Start: r.fitting(), Hours: 1 + r.Intn(3), Day: r.day + r.Intn(3), Weather: r.Intn(8), Km: r.Intn(401), Cents: r.Intn(900)}
	v.Booking = r.booking(map[int]int{api.BkCrash: api.BkDriven}[v.Kind])
	if r.Intn(12) == 0 {
		v.Start = r.hour()
	}
	// The time comes to the days of the lessons when some are booked.
	if late && r.time() < r.day*24 {
		v.At = r.day*24 + r.Intn(24)
	} else if r.Intn(5) == 0 {
		v.At += r.Intn(12)
	}
	if v.Kind == api.BkDrive && v.Booking < len(r.lessons) && r.Intn(2) == 0 {
		l := r.lessons[v.Booking]
		v.At = max(v.At, l.Start+l.Hours-r.Intn(2))
	}
	if r.Intn(10) == 0 {
		r.wild(&v)
	}
	return v
}

// wild makes a number of an event one that is often not valid.
func (r *events) wild(v *api.BkEvent) {
	n := wild[r.Intn(len(wild))]
	numbers := []*int{&v.Kind, &v.At, &v.Learner, &v.Car, &v.Booking, &v.Start, &v.Hours, &v.Day, &v.Weather, &v.Km, &v.Cents}
	if i := r.Intn(len(numbers)); i != 1 || n != 4800 {
		*numbers[i] = n
	}
}

// randomEvents is a school, and events that were told to a model of it.
func randomEvents(r *rand.Rand, many int) (api.BkSchool, []api.BkEvent, *model, []api.Errno) {
	s := randomSchool(r)
	m := newModel(s)
	stream := events{Rand: r, model: m, day: []int{0, 1, 50, 150, 196, 197, 198}[r.Intn(7)]}
	var all []api.BkEvent
	var refusals []api.Errno
	for i := range many {
		v := stream.next(i >= many/2)
		all, refusals = append(all, v), append(refusals, m.tell(i, v))
	}
	return s, all, m, refusals
}

// TestModel checks Run, Postings and First against the model, and that all
// errors of all kinds have occurred, and all that can become of a lesson.
func TestModel(t *testing.T) {
	r := rand.New(rand.NewSource(5))
	seen := map[[2]int]int{}
	states, hours := [4]int{}, map[api.Errno]int{}
	for range 3000 {
		s, all, m, refusals := randomEvents(r, r.Intn(61))
		got, state, e := book.Run(s, all)
		if !slices.Equal(got, refusals) || !sameState(state, m.state()) || e != api.OK {
			t.Fatalf("%v, %v: Run = %v, %v, %d, not %v, %v", s, all, got, state, e, refusals, m.state())
		}
		if postings, e := book.Postings(s, all); !slices.Equal(postings, m.postings) || e != api.OK {
			t.Fatalf("%v, %v: Postings = %v, %d, not %v", s, all, postings, e, m.postings)
		}
		for i, v := range all {
			if inside(0, v.Kind, 6) {
				seen[[2]int{v.Kind, int(refusals[i])}]++
			}
		}
		for _, l := range state.Lessons {
			states[l.State]++
		}
		for range 3 {
			learner, car, from, long := r.Intn(len(s.Learners)), r.Intn(len(s.Cars)), (m.time()/24+r.Intn(3))*24+r.Intn(24), 1+r.Intn(4)
			from = min(from, 4800)
			want, wantError := m.first(learner, car, from, long)
			hours[wantError]++
			if hour, e := book.First(s, all, learner, car, from, long); hour != want || e != wantError {
				t.Fatalf("%v, %v: First for %d, %d from %d, %d hours = %d, %d, not %d, %d", s, all, learner, car, from, long, hour, e, want, wantError)
			}
		}
	}
	for kind, errors := range [][]api.Errno{
		api.BkBook:    {api.OK, api.ErrNone, api.ErrRange, api.ErrArg, api.ErrDown, api.ErrTwice},
		api.BkCancel:  {api.OK, api.ErrNone, api.ErrRange, api.ErrArg},
		api.BkWeather: {api.OK, api.ErrRange},
		api.BkDrive:   {api.OK, api.ErrNone, api.ErrRange, api.ErrArg, api.ErrDown},
		api.BkService: {api.OK, api.ErrNone, api.ErrRange},
		api.BkCrash:   {api.OK, api.ErrNone, api.ErrRange},
		api.BkPay:     {api.OK, api.ErrNone, api.ErrRange},
	} {
		for _, e := range errors {
			if seen[[2]int{kind, int(e)}] < 20 {
				t.Errorf("the error %d of the kind %d has occurred %d times", e, kind, seen[[2]int{kind, int(e)}])
			}
		}
	}
	if slices.Min(states[:]) < 100 || hours[api.OK] < 100 || hours[api.ErrDown] < 100 {
		t.Errorf("%v lessons, First: %v", states, hours)
	}
}

package book_test

import (
	"math/rand"
	"slices"
	"testing"

	"bitepoint/api"
	"bitepoint/book"
)

// run is events of a school, and what Run and Postings tell of them.
type run struct {
	s        api.BkSchool
	events   []api.BkEvent
	refusals []api.Errno
	state    api.BkState
	postings []api.BkPosting
}

// newRun runs events.
func newRun(t *testing.T, s api.BkSchool, events []api.BkEvent) run {
	t.Helper()
	refusals, state, e := book.Run(s, events)
	postings, f := book.Postings(s, events)
	if e != api.OK || f != api.OK || len(refusals) != len(events) {
		t.Fatalf("%v, %v: Run = %v, %v, %d; Postings = %v, %d", s, events, refusals, state, e, postings, f)
	}
	return run{s, events, refusals, state, postings}
}

// ahead is what there is ahead of the event with an index.
func (x run) ahead(t *testing.T, index int) run {
	t.Helper()
	return newRun(t, x.s, x.events[:index])
}

// of is the postings of an event.
func (x run) of(event int) []api.BkPosting {
	var all []api.BkPosting
	for _, p := range x.postings {
		if p.Event == event {
			all = append(all, p)
		}
	}
	return all
}

// forRuns checks something for many random runs.
func forRuns(t *testing.T, many int, check func(t *testing.T, x run)) {
	t.Helper()
	r := rand.New(rand.NewSource(int64(many)))
	for range many {
		s, events, _, _ := randomEvents(r, r.Intn(61))
		check(t, newRun(t, s, events))
	}
}

// TestEven checks P5.5, and that postings are ordered ones of events that were
// done.
func TestEven(t *testing.T) {
	forRuns(t, 1001, func(t *testing.T, x run) {
		accounts := make([]int, len(x.s.Learners)+4)
		last := 0
		for _, p := range x.postings {
			if p.Cents <= 0 || p.From == p.To || p.Event < last || x.refusals[p.Event] != api.OK {
				t.Fatalf("%v, %v: Postings = %v", x.s, x.events, x.postings)
			}
			last = p.Event
			accounts[p.From] -= p.Cents
			accounts[p.To] += p.Cents
		}
		sum := 0
		for _, cents := range x.state.Accounts {
			sum += cents
		}
		if sum != 0 || !slices.Equal(accounts, x.state.Accounts) {
			t.Fatalf("%v, %v: the accounts are %v, not %v", x.s, x.events, x.state.Accounts, accounts)
		}
	})
}

// TestHours checks P5.6.
func TestHours(t *testing.T) {
	forRuns(t, 502, func(t *testing.T, x run) {
		want, is := 0, 0
		for _, l := range x.state.Lessons {
			if l.State == api.BkDriven || l.State == api.BkCrashed {
				want += l.Hours * x.s.Price
			}
		}
		for i, v := range x.events {
			if v.Kind == api.BkCancel && x.refusals[i] == api.OK {
				l := x.ahead(t, i).state.Lessons[v.Booking]
				fee, e := book.Fee(x.s, l.Hours, l.Start-v.At)
				if e != api.OK {
					t.Fatalf("%v: Fee of %v at %d = %d", x.s, l, v.At, e)
				}
				want += fee
			}
		}
		for _, p := range x.postings {
			if p.From < len(x.s.Learners) && p.To == len(x.s.Learners) {
				is += p.Cents
			}
		}
		if is != want {
			t.Fatalf("%v, %v: %d were posted from learners to the school, not %d", x.s, x.events, is, want)
		}
	})
}

// TestKilometres checks P5.7, and that a service begins them again.
func TestKilometres(t *testing.T) {
	forRuns(t, 1003, func(t *testing.T, x run) {
		var km []int
		for _, car := range x.s.Cars {
			km = append(km, car.Km)
		}
		since := make([]int, len(km))
		for i, v := range x.events {
			switch {
			case x.refusals[i] != api.OK:
			case v.Kind == api.BkDrive:
				// Whose car it is never changes.
				car := x.state.Lessons[v.Booking].Car
				km[car] += v.Km
				since[car] += v.Km
			case v.Kind == api.BkService:
				since[v.Car] = 0
			}
		}
		if !slices.Equal(km, x.state.Km) || !slices.Equal(since, x.state.Since) {
			t.Fatalf("%v, %v: the cars have %v and %v, not %v and %v", x.s, x.events, x.state.Km, x.state.Since, km, since)
		}
	})
}

// TestNobodyIsAtTwoPlaces checks P5.8.
func TestNobodyIsAtTwoPlaces(t *testing.T) {
	forRuns(t, 1004, func(t *testing.T, x run) {
		m := newModel(x.s)
		for i, v := range x.events {
			if x.refusals[i] == api.OK && v.Kind == api.BkWeather {
				m.weathers = append(m.weathers, [2]int{v.Day, v.Weather})
			}
		}
		m.lessons = x.state.Lessons
		time := timeAfter(x.events, x.refusals)
		for number, l := range x.state.Lessons {
			if l.State != api.BkOpen {
				continue
			}
			if m.isTaken(l, number) || m.isOutside(l) || l.Start > time && m.isBad(l) {
				t.Fatalf("%v, %v: %v is taken: %t; does not fit: %t; has a weather at %d: %t", x.s, x.events, l, m.isTaken(l, number), m.isOutside(l), time, m.isBad(l))
			}
		}
	})
}

// TestMovedLater checks P5.9: what a weather changes.
func TestMovedLater(t *testing.T) {
	moved, cancelled := 0, 0
	forRuns(t, 505, func(t *testing.T, x run) {
		for i, v := range x.events {
			if v.Kind != api.BkWeather || x.refusals[i] != api.OK {
				continue
			}
			before, after := x.ahead(t, i).state, x.ahead(t, i+1).state
			if len(before.Lessons) != len(after.Lessons) || len(x.of(i)) > 0 {
				t.Fatalf("%v, %v: %d changes %v to %v, with %v", x.s, x.events, i, before, after, x.of(i))
			}
			for number, l := range before.Lessons {
				then := after.Lessons[number]
				if l == then {
					continue
				}
				can := l.State == api.BkOpen && l.Start/24 == v.Day && l.Start > v.At
				later := l
				if then.State == api.BkCancelled {
					cancelled++
					later.State = api.BkCancelled
				} else {
					moved++
					later.Start = then.Start
					can = can && then.Start/24 > v.Day && then.Start%24 == l.Start%24
				}
				if !can || then != later {
					t.Fatalf("%v, %v: %d changes %v to %v", x.s, x.events, i, l, then)
				}
			}
			before.Lessons = after.Lessons
			if !sameState(before, after) {
				t.Fatalf("%v, %v: %d changes %v to %v", x.s, x.events, i, before, after)
			}
		}
	})
	if moved < 100 || cancelled < 20 {
		t.Errorf("only %d lessons were moved, and %d cancelled", moved, cancelled)
	}
}

// TestInsured checks P5.11.
func TestInsured(t *testing.T) {
	crashes := 0
	forRuns(t, 1006, func(t *testing.T, x run) {
		n := len(x.s.Learners)
		for i, v := range x.events {
			if v.Kind != api.BkCrash || x.refusals[i] != api.OK {
				continue
			}
			crashes++
			own, all := 0, 0
			for _, p := range x.of(i) {
				if p.To != n+1 || p.From != n && p.From != n+2 {
					t.Fatalf("%v, %v: %d posts %v", x.s, x.events, i, p)
				}
				all += p.Cents
				if p.From == n {
					own += p.Cents
				}
			}
			if own > x.s.Excess || all != v.Cents || own < all && own < x.s.Excess {
				t.Fatalf("%v, %v: for %d the school pays %d of %d", x.s, x.events, i, own, all)
			}
		}
	})
	if crashes < 100 {
		t.Errorf("only %d crashes", crashes)
	}
}

// TestRefused checks P5.12: without an event that was refused all is the same.
func TestRefused(t *testing.T) {
	without := 0
	forRuns(t, 207, func(t *testing.T, x run) {
		for i, e := range x.refusals {
			if e == api.OK {
				continue
			}
			without++
			y := newRun(t, x.s, slices.Delete(slices.Clone(x.events), i, i+1))
			refusals, postings := slices.Delete(slices.Clone(x.refusals), i, i+1), slices.Clone(x.postings)
			for at := range postings {
				if postings[at].Event > i {
					postings[at].Event--
				}
			}
			if !slices.Equal(y.refusals, refusals) || !sameState(y.state, x.state) || !slices.Equal(y.postings, postings) {
				t.Fatalf("%v, %v: without %d all is %v", x.s, x.events, i, y)
			}
		}
	})
	if without < 500 {
		t.Errorf("only %d events were refused", without)
	}
}

// TestFirstEvents checks P5.12: after the first events all is as it was then.
func TestFirstEvents(t *testing.T) {
	forRuns(t, 208, func(t *testing.T, x run) {
		for i := range x.events {
			y := x.ahead(t, i)
			until := slices.IndexFunc(x.postings, func(p api.BkPosting) bool { return p.Event >= i })
			if until < 0 {
				until = len(x.postings)
			}
			if !slices.Equal(y.refusals, x.refusals[:i]) || !slices.Equal(y.postings, x.postings[:until]) {
				t.Fatalf("%v, %v: the first %d: %v", x.s, x.events, i, y)
			}
			z := x.ahead(t, i+1)
			if x.refusals[i] != api.OK && !sameState(y.state, z.state) {
				t.Fatalf("%v, %v: %d is refused, but %v becomes %v", x.s, x.events, i, y.state, z.state)
			}
		}
	})
}

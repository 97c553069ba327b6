package book_test

import (
	"math"
	"math/rand"
	"slices"
	"testing"

	"bitepoint/api"
	"bitepoint/book"
)

func TestFirst(t *testing.T) {
	s, d, e := example(), allDay(), exampleEvents()
	// A lesson of 4 hours on each of 60 days keeps the mini busy at 8.
	var busy []api.BkEvent
	for day := range 60 {
		busy = append(busy, booked(0, ben, mini, 24*day+8, 4))
	}
	for i, c := range []struct {
		s                         api.BkSchool
		events                    []api.BkEvent
		learner, car, from, hours int
		want                      int
		e                         api.Errno
	}{
		{s, e, ben, mini, 34, 1, 35, api.OK}, {s, e, ben, mini, 43, 2, 56, api.OK},
		{s, nil, ann, mini, 0, 1, 8, api.OK}, {s, nil, ann, mini, 8, 1, 8, api.OK}, {s, nil, ann, mini, 9, 4, 9, api.OK}, {s, nil, ann, mini, 16, 4, 16, api.OK}, {s, nil, ann, mini, 17, 4, 32, api.OK}, {s, nil, ann, mini, 20, 1, 32, api.OK},
		// The time of the events, and of those alone that were done.
		{d, nil, ann, mini, 0, 1, 1, api.OK}, {d, nil, ann, mini, 1, 1, 1, api.OK}, {d, list(paid(7, ann, 1)), ann, mini, 0, 1, 8, api.OK}, {d, list(paid(7, ann, 1)), ann, mini, 8, 1, 8, api.OK}, {d, list(paid(7, ann, 1)), ann, mini, 9, 1, 9, api.OK}, {d, list(paid(7, 2, 1)), ann, mini, 0, 1, 1, api.OK}, {d, list(paid(7, ann, 1), paid(6, ann, 1), paid(9, ann, -1)), ann, mini, 0, 1, 8, api.OK},
		// What is in the way.
		{d, e, ann, van, 33, 2, 35, api.OK}, {d, e, ann, van, 32, 2, 32, api.OK}, {d, e, ann, van, 31, 4, 35, api.OK}, {d, e, ann, mini, 34, 1, 34, api.OK}, {d, e, ben, mini, 33, 1, 33, api.OK}, {d, e, ben, mini, 33, 2, 35, api.OK},
		{d, list(booked(0, ann, mini, 30, 2), booked(0, ben, van, 32, 2), booked(0, ann, van, 35, 2)), ann, van, 30, 1, 34, api.OK}, {d, list(booked(0, ann, mini, 30, 2), booked(0, ben, van, 32, 2), booked(0, ann, van, 35, 2)), ann, van, 30, 2, 37, api.OK},
		{s, busy, ann, mini, 0, 4, 12, api.OK}, {s, busy, ann, mini, 60*24 - 7, 4, 60*24 + 8, api.OK}, {s, busy, ben, van, 24, 4, 36, api.OK},
		// Weathers.
		{d, list(weather(0, 1, 1)), ann, mini, 24, 1, 48, api.OK}, {d, list(weather(0, 1, 1)), ann, van, 24, 1, 24, api.OK}, {d, list(weather(0, 1, 1), weather(0, 2, 3), weather(0, 2, 0)), ann, mini, 30, 1, 72, api.OK}, {s, list(weather(0, 1, 1)), ann, mini, 20, 1, 56, api.OK},
		// The last hours.
		{s, nil, ann, mini, 4795, 1, 4795, api.OK}, {s, nil, ann, mini, 4796, 1, 0, api.ErrDown}, {s, nil, ann, mini, 4793, 4, 0, api.ErrDown}, {s, nil, ann, mini, 4800, 1, 0, api.ErrDown}, {s, list(paid(4800, ann, 1)), ann, mini, 0, 1, 0, api.ErrDown}, {s, list(paid(4795, ann, 1)), ann, mini, 0, 1, 0, api.ErrDown}, {s, list(paid(4794, ann, 1)), ann, mini, 0, 1, 4795, api.OK},
		{d, nil, ann, mini, 4800, 1, 4800, api.OK}, {d, nil, ann, mini, 4797, 4, 4800, api.OK}, {d, list(weather(0, 200, 1)), ann, mini, 4800, 1, 0, api.ErrDown}, {s, list(weather(0, 199, 1)), ann, mini, 4780, 1, 0, api.ErrDown},
		// Errors.
		{s, e, -1, mini, -1, 0, 0, api.ErrNone}, {s, e, 2, mini, 0, 1, 0, api.ErrNone}, {s, e, ann, -1, 4801, 1, 0, api.ErrNone}, {s, e, ann, 2, 0, 1, 0, api.ErrNone}, {s, e, math.MaxInt, math.MinInt, 0, 1, 0, api.ErrNone},
		{s, e, ann, mini, -1, 1, 0, api.ErrRange}, {s, e, ann, mini, 4801, 1, 0, api.ErrRange}, {s, e, ann, mini, 0, 0, 0, api.ErrRange}, {s, e, ann, mini, 0, 5, 0, api.ErrRange}, {s, e, ann, mini, 4800, 5, 0, api.ErrRange}, {s, e, ann, mini, math.MaxInt, 1, 0, api.ErrRange}, {s, e, ann, mini, math.MinInt, 1, 0, api.ErrRange}, {s, e, ann, mini, 0, math.MaxInt, 0, api.ErrRange}, {s, e, ann, mini, 0, math.MinInt, 0, api.ErrRange},
	} {
		if hour, e := book.First(c.s, c.events, c.learner, c.car, c.from, c.hours); hour != c.want || e != c.e {
			t.Errorf("%d: First = %d, %d, not %d, %d", i, hour, e, c.want, c.e)
		}
	}
}

// timeAfter is the At of the last event that was done.
func timeAfter(events []api.BkEvent, refusals []api.Errno) int {
	time := 0
	for i, v := range events {
		if refusals[i] == api.OK {
			time = v.At
		}
	}
	return time
}

// TestFirstIsTheFirst checks P5.13 with Run alone: the lesson can be booked at
// the first hour, and at none before it.
func TestFirstIsTheFirst(t *testing.T) {
	r := rand.New(rand.NewSource(513))
	for range 400 {
		s, events, _, refusals := randomEvents(r, r.Intn(60))
		time := timeAfter(events, refusals)
		learner, car, hours := r.Intn(len(s.Learners)), r.Intn(len(s.Cars)), 1+r.Intn(4)
		from := max(0, min(4800, time-5+r.Intn(60)))
		first, e := book.First(s, events, learner, car, from, hours)
		if e == api.OK && first < from {
			t.Fatalf("%v, %v: First from %d = %d", s, events, from, first)
		}
		if e != api.OK && (e != api.ErrDown || first != 0) {
			t.Fatalf("%v, %v: First = %d, %d", s, events, first, e)
		}
		for hour := from; hour <= 4800; hour++ {
			if e == api.ErrDown && hour > from+300 {
				break
			}
			refusals, _, _ := book.Run(s, append(slices.Clone(events), booked(time, learner, car, hour, hours)))
			isFirst := e == api.OK && hour == first
			if can := refusals[len(events)] == api.OK; can != isFirst {
				t.Fatalf("%v, %v: First for %d, %d from %d, %d hours = %d, %d, but at %d it is %t", s, events, learner, car, from, hours, first, e, hour, can)
			}
			if isFirst {
				break
			}
		}
	}
}

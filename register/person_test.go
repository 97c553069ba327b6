package register_test

import (
	"math"
	"slices"
	"testing"

	"bitepoint/api"
	"bitepoint/register"
)

// pass, exchange, renew, offence and court are events.
func pass(day, class, codes, minute int) api.RgEvent {
	return api.RgEvent{Kind: api.RgPass, Day: day, Right: right(class, codes), Minute: minute}
}

func exchange(day, treaty int) api.RgEvent {
	return api.RgEvent{Kind: api.RgExchange, Day: day, Treaty: treaty}
}

func renew(day, class int) api.RgEvent {
	return api.RgEvent{Kind: api.RgRenew, Day: day, Class: class}
}

func offence(day, points int) api.RgEvent {
	return api.RgEvent{Kind: api.RgOffence, Day: day, Points: points}
}

func court(day, until int) api.RgEvent {
	return api.RgEvent{Kind: api.RgBan, Day: day, Until: until}
}

// person is somebody who was born on a day.
func person(born int, events ...api.RgEvent) api.RgPerson {
	return api.RgPerson{Born: born, Events: events}
}

// ann is P of the document's examples.
func ann() api.RgPerson {
	return person(0, pass(6000, am, 0, 0), pass(6500, b, 0, 0), pass(6600, b, 0, 0), offence(7000, 5), offence(7500, 4), exchange(8500, 0), renew(12000, b), court(7200, 7250))
}

// same reports whether two persons are the same: nil and empty slices are, too.
func same(a, b api.RgPerson) bool { return a.Born == b.Born && slices.Equal(a.Events, b.Events) }

// with is an event with a change.
func with(event api.RgEvent, change func(event *api.RgEvent)) api.RgEvent {
	change(&event)
	return event
}

// personCases are persons of the example, and their errors.
var personCases = []struct {
	p api.RgPerson
	e api.Errno
}{
	{ann(), api.OK}, {person(0), api.OK}, {person(40000), api.OK}, {person(40000, pass(40000, b, manual, 1439), court(40000, 40000)), api.OK},
	// The day of birth, whatever else is wrong.
	{person(-1), api.ErrRange}, {person(40001), api.ErrRange}, {person(math.MinInt), api.ErrRange}, {person(math.MaxInt), api.ErrRange},
	{person(-1, make([]api.RgEvent, 31)...), api.ErrRange}, {person(-1, api.RgEvent{Kind: 9}), api.ErrRange},
	// How many events there are, also if they are the same.
	{person(0, slices.Repeat([]api.RgEvent{offence(1, 1)}, 30)...), api.OK}, {person(0, slices.Repeat([]api.RgEvent{offence(1, 1)}, 31)...), api.ErrLong},
	{person(0, slices.Repeat([]api.RgEvent{{Kind: 9}}, 31)...), api.ErrLong}, {person(0, make([]api.RgEvent, 100000)...), api.ErrLong},
	// Kinds.
	{person(0, api.RgEvent{Kind: 5}), api.ErrArg}, {person(0, api.RgEvent{Kind: -1}), api.ErrArg}, {person(0, api.RgEvent{Kind: math.MinInt, Day: -1}), api.ErrArg}, {person(9, api.RgEvent{Kind: math.MaxInt, Day: 40001}), api.ErrArg},
	{person(5, offence(5, 1), api.RgEvent{Kind: 5, Day: 5}), api.ErrArg},
	// Days.
	{person(0, offence(-1, 0)), api.ErrRange}, {person(0, offence(40001, 0)), api.ErrRange}, {person(9, offence(-1, 1)), api.ErrRange}, {person(9, offence(math.MinInt, 1)), api.ErrRange}, {person(9, offence(math.MaxInt, 1)), api.ErrRange}, {person(0, offence(0, 1), offence(40000, 1)), api.OK},
	{person(9, offence(8, 0)), api.ErrArg}, {person(9, offence(9, 1)), api.OK}, {person(40000, offence(39999, 1)), api.ErrArg}, {person(9, pass(8, 9, 9, -1)), api.ErrArg}, {person(9, exchange(0, 9)), api.ErrArg}, {person(9, renew(8, 9)), api.ErrArg}, {person(9, court(8, 7)), api.ErrArg},
	// What a pass has: first the right, then the minute.
	{person(0, pass(0, 2, 2, -1)), api.ErrNone}, {person(0, pass(0, -1, 0, 0)), api.ErrNone}, {person(0, pass(0, math.MaxInt, 0, 0)), api.ErrNone}, {person(0, pass(0, 1, 2, -1)), api.ErrRange}, {person(0, pass(0, 1, -1, 0)), api.ErrRange}, {person(0, pass(0, 1, 1, 1439)), api.OK},
	{person(0, pass(0, 1, 1, -1)), api.ErrRange}, {person(0, pass(0, 1, 1, 1440)), api.ErrRange}, {person(0, pass(0, 1, 1, math.MinInt)), api.ErrRange}, {person(0, pass(0, 1, 1, math.MaxInt)), api.ErrRange}, {person(0, pass(0, 1, 2, 1440)), api.ErrRange},
	// Exchanges, renewals, offences and bans.
	{person(0, exchange(0, 0)), api.OK}, {person(0, exchange(0, 1)), api.ErrNone}, {person(0, exchange(0, -1)), api.ErrNone}, {person(0, exchange(0, math.MaxInt)), api.ErrNone}, {person(0, exchange(0, math.MinInt)), api.ErrNone},
	{person(0, renew(0, 0), renew(0, 1)), api.OK}, {person(0, renew(0, 2)), api.ErrNone}, {person(0, renew(0, -1)), api.ErrNone}, {person(0, renew(0, math.MaxInt)), api.ErrNone}, {person(0, renew(0, math.MinInt)), api.ErrNone},
	{person(0, offence(0, 1), offence(0, 20)), api.OK}, {person(0, offence(0, 0)), api.ErrRange}, {person(0, offence(0, 21)), api.ErrRange}, {person(0, offence(0, -1)), api.ErrRange}, {person(0, offence(0, math.MaxInt)), api.ErrRange}, {person(0, offence(0, math.MinInt)), api.ErrRange},
	{person(0, court(5, 5), court(5, 40000)), api.OK}, {person(0, court(5, 4)), api.ErrRange}, {person(0, court(5, 0)), api.ErrRange}, {person(0, court(5, 40001)), api.ErrRange}, {person(0, court(5, -1)), api.ErrRange}, {person(0, court(40000, 40001)), api.ErrRange}, {person(0, court(0, math.MaxInt)), api.ErrRange}, {person(0, court(0, math.MinInt)), api.ErrRange},
	// The first event with an error.
	{person(0, offence(0, 0), exchange(0, 1)), api.ErrRange}, {person(0, exchange(0, 1), offence(0, 0)), api.ErrNone}, {person(0, renew(0, 0), court(5, 4), api.RgEvent{Kind: 9}), api.ErrRange}, {person(3, offence(3, 3), offence(2, 3), offence(-1, 3)), api.ErrArg},
}

// otherFields are the changes of an event that make a single field another one,
// and the kinds of events that have this field.
var otherFields = []struct {
	change func(event *api.RgEvent)
	kinds  []int
}{
	{func(event *api.RgEvent) { event.Right.Class = 1 }, []int{api.RgPass}},
	{func(event *api.RgEvent) { event.Right.Codes = 1 }, []int{api.RgPass}},
	{func(event *api.RgEvent) { event.Minute = 1 }, []int{api.RgPass}},
	{func(event *api.RgEvent) { event.Treaty = 1 }, []int{api.RgExchange}},
	{func(event *api.RgEvent) { event.Class = 1 }, []int{api.RgRenew}},
	{func(event *api.RgEvent) { event.Points = 1 }, []int{api.RgOffence}},
	{func(event *api.RgEvent) { event.Until = 1 }, []int{api.RgBan}},
	{func(event *api.RgEvent) { event.Until = -1 }, nil},
	{func(event *api.RgEvent) { event.Points = math.MinInt }, nil},
}

// personErrors are the errors that all functions with a person return, in the
// order of the functions.
func personErrors(r api.RgRules, p api.RgPerson) []api.Errno {
	var errors []api.Errno
	a := arguments{r: r, p: p, day: -1, drive: api.RgDrive{Day: -1}, drives: make([]api.RgDrive, 31)}
	for f, is := range a.results() {
		if f != readIs {
			errors = append(errors, is.e)
		}
	}
	return errors
}

// TestErrorsOfPersons checks the error of a person, in all functions that have
// one: they return it ahead of the error of a day, or of drives.
func TestErrorsOfPersons(t *testing.T) {
	for i, one := range personCases {
		if _, e := register.Sorted(example(), one.p); e != one.e {
			t.Errorf("case %d: Sorted of %v = %d, not %d", i, one.p, e, one.e)
		}
		for f, e := range personErrors(example(), one.p) {
			if one.e != api.OK && e != one.e {
				t.Errorf("case %d: the function %d of %v = %d, not %d", i, f, one.p, e, one.e)
			}
		}
	}
}

// TestOtherFields checks that an event has just what its kind has: all other
// fields are 0.
func TestOtherFields(t *testing.T) {
	r := changed(func(r *api.RgRules) { r.Treaties = append(r.Treaties, treaty("calais", am, 0, 0, 0)) })
	for kind, event := range []api.RgEvent{pass(0, 0, 0, 0), exchange(0, 0), renew(0, 0), offence(0, 2), court(0, 0)} {
		for i, other := range otherFields {
			want := api.ErrArg
			if slices.Contains(other.kinds, kind) {
				want = api.OK
			}
			if kind == api.RgBan && i == 7 || kind == api.RgOffence && i == 8 {
				want = api.ErrRange
			}
			if _, e := register.Sorted(r, person(0, with(event, other.change))); e != want {
				t.Errorf("the kind %d with the field %d: %d, not %d", kind, i, e, want)
			}
		}
	}
	// What an event has comes before what it has not.
	for event, want := range map[api.RgEvent]api.Errno{
		with(exchange(0, 2), func(event *api.RgEvent) { event.Points = 1 }):  api.ErrNone,
		with(offence(0, 21), func(event *api.RgEvent) { event.Minute = 1 }):  api.ErrRange,
		with(pass(0, 0, 2, 0), func(event *api.RgEvent) { event.Until = 1 }): api.ErrRange,
		with(renew(0, 0), func(event *api.RgEvent) { event.Until = 1 }):      api.ErrArg,
	} {
		if _, e := register.Sorted(r, person(0, event, api.RgEvent{Kind: 9})); e != want {
			t.Errorf("%v: %d, not %d", event, e, want)
		}
	}
}

// TestSorted checks P11.2.
func TestSorted(t *testing.T) {
	r := changed(func(r *api.RgRules) { r.Treaties = append(r.Treaties, treaty("calais", am, 0, 0, 0)) })
	// The events in order: each one differs from the one before it in another
	// field.
	ordered := []api.RgEvent{
		offence(5, 9),
		pass(6, am, 0, 700), pass(6, am, 0, 701), pass(6, am, manual, 3), pass(6, b, 0, 2), pass(6, b, manual, 0),
		exchange(6, 0), exchange(6, 1),
		renew(6, am), renew(6, b),
		offence(6, 1), offence(6, 2), offence(6, 10),
		court(6, 6), court(6, 7), court(6, 40000),
		pass(7, am, 0, 0), court(9, 10), offence(10, 1),
	}
	reversed := slices.Clone(ordered)
	slices.Reverse(reversed)
	for _, one := range []struct{ events, want []api.RgEvent }{
		{nil, nil}, {[]api.RgEvent{}, nil}, {ordered[:1], ordered[:1]},
		{ordered, ordered}, {reversed, ordered},
		{slices.Concat(reversed[8:], reversed[:10]), ordered}, {slices.Concat(ordered[6:], ordered[:8]), ordered},
		{slices.Repeat([]api.RgEvent{renew(6, b)}, 30), []api.RgEvent{renew(6, b)}},
		{slices.Repeat([]api.RgEvent{offence(6, 2), offence(6, 1)}, 15), []api.RgEvent{offence(6, 1), offence(6, 2)}},
		// Numbers are compared, not texts.
		{[]api.RgEvent{offence(10, 1), offence(9, 1), offence(9, 10), offence(9, 9)}, []api.RgEvent{offence(9, 1), offence(9, 9), offence(9, 10), offence(10, 1)}},
	} {
		if p, e := register.Sorted(r, person(5, one.events...)); !same(p, person(5, one.want...)) || e != api.OK {
			t.Errorf("Sorted of %v = %v, %d, not %v", one.events, p, e, one.want)
		}
	}
	want := person(0, pass(6000, am, 0, 0), pass(6500, b, 0, 0), pass(6600, b, 0, 0), offence(7000, 5), court(7200, 7250), offence(7500, 4), exchange(8500, 0), renew(12000, b))
	if p, e := register.Sorted(example(), ann()); !same(p, want) || e != api.OK {
		t.Errorf("Sorted of ann = %v, %d, not %v", p, e, want)
	}
}

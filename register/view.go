package register

import (
	"cmp"
	"slices"

	"bitepoint/api"
	"bitepoint/check"
	"bitepoint/class"
	"bitepoint/names"
)

const (
	hourMinutes = 60
	lastMinute  = 24*hourMinutes - 1 // of a day
)

// view is rules that are looked at.
type view struct{ api.RgRules }

// treatyError returns the error of a treaty.
func (v view) treatyError(at int, t api.RgTreaty) api.Errno {
	if e := names.Error(v.Treaties, at, func(t api.RgTreaty) string { return t.Name }); e != api.OK {
		return e
	}
	if e := v.rightError(t.Right); e != api.OK {
		return e
	}
	if !isDay(t.Days.Lo, t.Days.Hi) {
		return api.ErrRange
	}
	if t.Days.Lo > t.Days.Hi {
		return api.ErrArg
	}
	return api.OK
}

// rightError returns the error of a right.
func (v view) rightError(right api.ClRight) api.Errno {
	_, e := class.Least(v.System, []api.ClRight{right})
	return e
}

// personError returns the error of a person.
func (v view) personError(p api.RgPerson) (e api.Errno) {
	defer func() {
		if left, is := recover().(api.Errno); is {
			e = left
		}
	}()
	check.Need(isDay(p.Born), api.ErrRange)
	check.Need(len(p.Events) <= api.MaxRgEvents, api.ErrLong)
	for _, event := range p.Events {
		check.Need(check.Within(api.RgPass, api.RgBan, event.Kind), api.ErrArg)
		check.Need(isDay(event.Day), api.ErrRange)
		check.Need(event.Day >= p.Born, api.ErrArg)
		check.Need(event == v.proper(event), api.ErrArg)
	}
	return api.OK
}

// proper returns an event with nothing but what one of its kind has. It panics
// with the error of that.
func (v view) proper(event api.RgEvent) api.RgEvent {
	only := api.RgEvent{Kind: event.Kind, Day: event.Day}
	switch event.Kind {
	case api.RgPass:
		e := v.rightError(event.Right)
		check.Need(e == api.OK, e)
		check.Need(check.Within(0, lastMinute, event.Minute), api.ErrRange)
		only.Right, only.Minute = event.Right, event.Minute
	case api.RgExchange:
		check.Need(check.Within(0, len(v.Treaties)-1, event.Treaty), api.ErrNone)
		only.Treaty = event.Treaty
	case api.RgRenew:
		check.Need(check.Within(0, len(v.System.Classes)-1, event.Class), api.ErrNone)
		only.Class = event.Class
	case api.RgOffence:
		check.Need(check.Within(1, api.MaxRgPoints, event.Points), api.ErrRange)
		only.Points = event.Points
	case api.RgBan:
		check.Need(check.Within(event.Day, api.MaxDay, event.Until), api.ErrRange)
		only.Until = event.Until
	}
	return only
}

// inOrder returns events in order.
func inOrder(events []api.RgEvent) []api.RgEvent {
	ordered := slices.SortedFunc(slices.Values(events), by(
		func(e api.RgEvent) int { return e.Day },
		func(e api.RgEvent) int { return e.Kind },
		func(e api.RgEvent) int { return e.Right.Class },
		func(e api.RgEvent) int { return e.Right.Codes },
		func(e api.RgEvent) int { return e.Treaty },
		func(e api.RgEvent) int { return e.Class },
		func(e api.RgEvent) int { return e.Points },
		func(e api.RgEvent) int { return e.Until },
		func(e api.RgEvent) int { return e.Minute },
	))
	return slices.Compact(ordered)
}

// by returns what compares two elements by some numbers that they have: the
// first one that differs decides.
func by[T any](numbers ...func(element T) int) func(a, b T) int {
	return func(a, b T) int {
		for _, number := range numbers {
			if order := cmp.Compare(number(a), number(b)); order != 0 {
				return order
			}
		}
		return 0
	}
}

// isDay reports whether all numbers are days.
func isDay(numbers ...int) bool { return check.Within(0, api.MaxDay, numbers...) }

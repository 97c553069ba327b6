package street

import (
	"slices"

	"bitepoint/api"
	"bitepoint/check"
)

// Drive returns the tour of steps, and where it ends.
func Drive(t api.StTown, from, time int, steps []api.StStep) (tour api.StTour, to int, e api.Errno) {
	v, e := open(t)
	if e != api.OK {
		return api.StTour{}, 0, e
	}
	if !v.arePlaces(from) || !v.isTime(time) {
		return api.StTour{}, 0, api.ErrNone
	}
	if e := v.stepsError(from, steps); e != api.OK {
		return api.StTour{}, 0, e
	}
	to = from
	if len(steps) > 0 {
		_, to = v.ends(steps[len(steps)-1])
	}
	return v.tour(time, steps), to, api.OK
}

// tour returns the tour of steps at a time of the day.
func (v view) tour(time int, steps []api.StStep) api.StTour {
	tour := api.StTour{Steps: slices.Clone(steps)}
	for _, step := range steps {
		s := v.Streets[step.Street]
		tour.Metres += s.Metres
		tour.Minutes.Lo += s.Minutes.Lo
		tour.Minutes.Hi += s.Minutes.Hi
		tour.Shown |= s.Shows[time]
	}
	return tour
}

// ends returns the places where a step begins and ends.
func (v view) ends(step api.StStep) (from, to int) {
	s := v.Streets[step.Street]
	if step.Back {
		return s.To, s.From
	}
	return s.From, s.To
}

// stepsError returns the error of steps from a place on.
func (v view) stepsError(place int, steps []api.StStep) api.Errno {
	if len(steps) > api.MaxStSteps {
		return api.ErrLong
	}
	_, e := check.FirstError(steps, func(_ int, step api.StStep) api.Errno {
		if !v.areStreets(step.Street) {
			return api.ErrNone
		}
		if step.Back && !v.Streets[step.Street].Both {
			return api.ErrArg
		}
		from, to := v.ends(step)
		if from != place {
			return api.ErrDown
		}
		place = to
		return api.OK
	})
	return e
}

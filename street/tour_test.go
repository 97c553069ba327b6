package street_test

import (
	"math"
	"math/rand"
	"reflect"
	"slices"
	"testing"

	"bitepoint/api"
	"bitepoint/street"
)

// by is the steps by some streets. A number below 0 is a street that is driven
// back: -1 is the street 0.
func by(streets ...int) []api.StStep {
	var steps []api.StStep
	for _, n := range streets {
		step := api.StStep{Street: n}
		if n < 0 {
			step = api.StStep{Street: -n - 1, Back: true}
		}
		steps = append(steps, step)
	}
	return steps
}

// ends are the places where a step begins and ends.
func ends(t api.StTown, s api.StStep) (from, to int) {
	if s.Back {
		return t.Streets[s.Street].To, t.Streets[s.Street].From
	}
	return t.Streets[s.Street].From, t.Streets[s.Street].To
}

// stepsFrom are all steps that begin at a place, without closed streets.
func stepsFrom(t api.StTown, place int, closed []int) []api.StStep {
	var steps []api.StStep
	for at, s := range t.Streets {
		for _, step := range []api.StStep{{Street: at}, {Street: at, Back: true}} {
			if from, _ := ends(t, step); from == place && !slices.Contains(closed, at) && (s.Both || !step.Back) {
				steps = append(steps, step)
			}
		}
	}
	return steps
}

// randomSteps are at most so many steps from a place on.
func randomSteps(r *rand.Rand, t api.StTown, place, most int) []api.StStep {
	var steps []api.StStep
	for range r.Intn(most + 1) {
		next := stepsFrom(t, place, nil)
		if len(next) == 0 {
			break
		}
		steps = append(steps, next[r.Intn(len(next))])
		_, place = ends(t, steps[len(steps)-1])
	}
	return steps
}

// thereAndBack are so many steps from home to the hill, and back.
func thereAndBack(many int) []api.StStep {
	var steps []api.StStep
	for i := range many {
		steps = append(steps, api.StStep{Street: 0, Back: i%2 == 1})
	}
	return steps
}

// longest is a town with the longest and slowest streets.
func longest() api.StTown {
	t := example()
	for i := range t.Streets {
		t.Streets[i].Metres, t.Streets[i].Minutes = 10000, span(59, 60)
	}
	return t
}

func TestDrive(t *testing.T) {
	for i, c := range []struct {
		town       api.StTown
		from, time int
		steps      []api.StStep
		metres     int
		minutes    api.Span
		shown, to  int
	}{
		{example(), home, am, by(0, 1, 3), 1400, span(5, 7), tram | bend, home},
		{example(), home, pm, by(0, 1), 800, span(3, 5), tram | bend, ring},
		{example(), home, am, by(0, 1), 800, span(3, 5), bend, ring},
		{example(), home, pm, by(2, -2, -1), 1200, span(4, 9), tram | bend, home},
		{example(), hill, am, by(-1, 0), 600, span(2, 4), bend, hill},
		{example(), ring, am, by(3), 600, span(2, 2), tram, home},
		{example(), home, am, by(2), 400, span(1, 4), 0, ring},
		{example(), home, am, nil, 0, span(0, 0), 0, home},
		{example(), depot, pm, []api.StStep{}, 0, span(0, 0), 0, depot},
		{longest(), home, am, thereAndBack(1100), 11000000, span(64900, 66000), bend, home},
		{longest(), home, am, thereAndBack(1099), 10990000, span(64841, 65940), bend, hill},
	} {
		tour, to, e := street.Drive(c.town, c.from, c.time, c.steps)
		if !slices.Equal(tour.Steps, c.steps) || tour.Metres != c.metres || tour.Minutes != c.minutes || tour.Shown != c.shown || to != c.to || e != api.OK {
			t.Errorf("%d: Drive = %d metres, %v, %d, by %v, to %d, %d", i, tour.Metres, tour.Minutes, tour.Shown, tour.Steps, to, e)
		}
	}
}

// stepsErrors are steps in the example, and the error of Drive and Write.
var stepsErrors = []struct {
	from  int
	steps []api.StStep
	e     api.Errno
}{
	{-1, nil, api.ErrNone}, {4, by(0), api.ErrNone}, {math.MaxInt, nil, api.ErrNone}, {math.MinInt, nil, api.ErrNone},
	{home, thereAndBack(1101), api.ErrLong}, {home, make([]api.StStep, 1101), api.ErrLong}, {4, thereAndBack(1101), api.ErrNone},
	{home, by(4), api.ErrNone}, {home, []api.StStep{{Street: -1}}, api.ErrNone}, {home, []api.StStep{{Street: math.MaxInt, Back: true}}, api.ErrNone}, {home, []api.StStep{{Street: math.MinInt}}, api.ErrNone},
	{ring, by(-3), api.ErrArg}, {home, by(-4), api.ErrArg}, {depot, by(-3), api.ErrArg},
	{hill, by(0), api.ErrDown}, {home, by(1), api.ErrDown}, {home, by(-1), api.ErrDown}, {home, by(0, 0), api.ErrDown}, {home, by(0, 3), api.ErrDown}, {home, by(0, -1, 0, 2), api.ErrDown}, {depot, by(0), api.ErrDown},
	{home, by(1, 9), api.ErrDown}, {home, by(-3, 9), api.ErrArg}, {home, by(9, -3), api.ErrNone}, {home, by(0, 2, -3), api.ErrDown}, {home, by(2, -3, 9), api.ErrArg},
	{home, make([]api.StStep, 1100), api.ErrDown},
}

func TestDriveOfWrongSteps(t *testing.T) {
	for i, c := range stepsErrors {
		tour, to, e := street.Drive(example(), c.from, pm, c.steps)
		if e != c.e || to != 0 || !reflect.DeepEqual(tour, api.StTour{}) {
			t.Errorf("%d: Drive = %v, %d, %d", i, tour, to, e)
		}
	}
}

func TestDriveNamesTheFirstError(t *testing.T) {
	for i, c := range []struct {
		town       api.StTown
		from, time int
		steps      []api.StStep
		e          api.Errno
	}{
		{example(), home, 2, by(0), api.ErrNone}, {example(), home, -1, nil, api.ErrNone}, {example(), home, math.MaxInt, by(9), api.ErrNone},
		{example(), home, 2, thereAndBack(1101), api.ErrNone}, {example(), home, 2, by(0, 0), api.ErrNone}, {example(), -1, 2, nil, api.ErrNone},
		{wrongTown(), home, am, nil, api.ErrTwice}, {wrongTown(), -1, -1, thereAndBack(1101), api.ErrTwice}, {api.StTown{}, 0, 0, nil, api.ErrLong},
	} {
		tour, to, e := street.Drive(c.town, c.from, c.time, c.steps)
		if e != c.e || to != 0 || !reflect.DeepEqual(tour, api.StTour{}) {
			t.Errorf("%d: Drive = %v, %d, %d", i, tour, to, e)
		}
	}
}

// TestDriveOfTwoParts checks P3.11: a tour is its parts, together.
func TestDriveOfTwoParts(t *testing.T) {
	r := rand.New(rand.NewSource(11))
	for range 2000 {
		town := randomTown(r, 8, 6, 20, 10000)
		from, time := r.Intn(len(town.Places)), r.Intn(len(town.Times))
		steps := randomSteps(r, town, from, 30)
		whole, to, e := street.Drive(town, from, time, steps)
		if e != api.OK || !slices.Equal(whole.Steps, steps) {
			t.Fatalf("%v: Drive = %v, %d", steps, whole, e)
		}
		cut := r.Intn(len(steps) + 1)
		a, between, e := street.Drive(town, from, time, steps[:cut])
		if e != api.OK {
			t.Fatalf("%v: Drive = %d", steps[:cut], e)
		}
		b, end, e := street.Drive(town, between, time, steps[cut:])
		if e != api.OK || end != to {
			t.Fatalf("%v: Drive ends at %d, not %d, %d", steps[cut:], end, to, e)
		}
		minutes := span(a.Minutes.Lo+b.Minutes.Lo, a.Minutes.Hi+b.Minutes.Hi)
		if whole.Metres != a.Metres+b.Metres || whole.Minutes != minutes || whole.Shown != a.Shown|b.Shown {
			t.Fatalf("%v: %v is not %v and %v", steps, whole, a, b)
		}
	}
}

package street_test

import (
	"cmp"
	"math"
	"math/rand"
	"reflect"
	"slices"
	"testing"

	"bitepoint/api"
	"bitepoint/street"
)

// task is a task in the example.
func task(from, to, show, time int, closed ...int) api.StTask {
	return api.StTask{From: from, To: to, Show: show, Time: time, Closed: closed}
}

// length is how many metres steps have.
func length(t api.StTown, steps []api.StStep) int {
	metres := 0
	for _, step := range steps {
		metres += t.Streets[step.Street].Metres
	}
	return metres
}

// compareTours orders tours as the document does: by metres, by their number
// of steps, and then step by step.
func compareTours(t api.StTown, a, b []api.StStep) int {
	return cmp.Or(cmp.Compare(length(t, a), length(t, b)), cmp.Compare(len(a), len(b)), slices.CompareFunc(a, b, func(a, b api.StStep) int {
		if a.Street == b.Street && a.Back != b.Back {
			if b.Back {
				return -1
			}
			return 1
		}
		return cmp.Compare(a.Street, b.Street)
	}))
}

// reached is where a tour has come to, and what it has shown of what is wanted.
type reached struct{ place, shown int }

// bestTours are the best tours from a place to all that can be reached, found
// by making tours longer until none becomes better.
func bestTours(t api.StTown, k api.StTask) map[reached][]api.StStep {
	best := map[reached][]api.StStep{{k.From, 0}: nil}
	for changed := true; changed; {
		changed = false
		for place := range t.Places {
			for shown := range 1 << len(t.Shows) {
				tour, ok := best[reached{place, shown}]
				if !ok {
					continue
				}
				for _, step := range stepsFrom(t, place, k.Closed) {
					_, to := ends(t, step)
					next := reached{to, shown | t.Streets[step.Street].Shows[k.Time]&k.Show}
					longer := append(slices.Clone(tour), step)
					if old, ok := best[next]; !ok || compareTours(t, longer, old) < 0 {
						best[next], changed = longer, true
					}
				}
			}
		}
	}
	return best
}

// allTours calls a function with all tours of at most so many metres and steps
// that do a task.
func allTours(t api.StTown, k api.StTask, metres, steps int, visit func(tour []api.StStep)) {
	var tour []api.StStep
	var walk func(place, shown, metres int)
	walk = func(place, shown, metres int) {
		if place == k.To && k.Show&^shown == 0 {
			visit(tour)
		}
		if len(tour) == steps {
			return
		}
		for _, step := range stepsFrom(t, place, k.Closed) {
			s := t.Streets[step.Street]
			if s.Metres > metres {
				continue
			}
			_, to := ends(t, step)
			tour = append(tour, step)
			walk(to, shown|s.Shows[k.Time], metres-s.Metres)
			tour = tour[:len(tour)-1]
		}
	}
	walk(k.From, 0, metres)
}

// find is Find, with the metres of the tour, or -1 if there is none.
func find(t *testing.T, town api.StTown, k api.StTask) (api.StTour, int) {
	t.Helper()
	tour, e := street.Find(town, k)
	switch e {
	case api.OK:
		return tour, tour.Metres
	case api.ErrDown:
		return tour, -1
	}
	t.Fatalf("Find of %v, %v = %d", town, k, e)
	return api.StTour{}, 0
}

func TestFind(t *testing.T) {
	for i, c := range []struct {
		k      api.StTask
		steps  []api.StStep
		metres int
		e      api.Errno
	}{
		{task(home, home, 0, am), nil, 0, api.OK},
		{task(home, home, 0, am, 0, 1, 2, 3), nil, 0, api.OK},
		{task(home, home, tram, am), by(2, 3), 1000, api.OK},
		{task(home, home, tram, am, 3), nil, 0, api.ErrDown},
		{task(home, home, tram, pm, 3), by(2, -2, -1), 1200, api.OK},
		{task(home, home, tram, pm, 3, 3, 3), by(2, -2, -1), 1200, api.OK},
		{task(home, home, tram, pm, 3, 2), by(0, 1, -2, -1), 1600, api.OK},
		{task(home, home, bend, am), by(0, -1), 600, api.OK},
		{task(home, home, tram|bend, am), by(0, 1, 3), 1400, api.OK},
		{task(home, home, tram|bend, pm), by(2, -2, -1), 1200, api.OK},
		{task(home, home, tram|bend, am, 1), by(0, -1, 2, 3), 1600, api.OK},
		{task(home, depot, 0, am), nil, 0, api.ErrDown},
		{task(depot, home, tram, pm), nil, 0, api.ErrDown},
		{task(depot, depot, 0, pm), nil, 0, api.OK},
		{task(depot, depot, bend, pm), nil, 0, api.ErrDown},
		{task(home, ring, 0, am), by(2), 400, api.OK},
		{task(home, ring, 0, am, 2), by(0, 1), 800, api.OK},
		{task(home, ring, tram, am), by(2, 3, 2), 1400, api.OK},
		{task(hill, home, tram, am), by(1, 3), 1100, api.OK},
		{task(ring, hill, 0, pm), by(-2), 500, api.OK},
		{task(hill, hill, 0, am), nil, 0, api.OK},
	} {
		tour, e := street.Find(example(), c.k)
		if e != c.e || !slices.Equal(tour.Steps, c.steps) || tour.Metres != c.metres {
			t.Errorf("%d: Find = %v, %d", i, tour, e)
			continue
		}
		if e != api.OK {
			if !reflect.DeepEqual(tour, api.StTour{}) {
				t.Errorf("%d: Find = %v with an error", i, tour)
			}
			continue
		}
		driven, to, e := street.Drive(example(), c.k.From, c.k.Time, c.steps)
		if e != api.OK || to != c.k.To || tour.Minutes != driven.Minutes || tour.Shown != driven.Shown {
			t.Errorf("%d: Find = %v, which is driven as %v to %d, %d", i, tour, driven, to, e)
		}
	}
}

// TestFindOfSeveral checks which one of several tours with as many metres is
// the best one.
func TestFindOfSeveral(t *testing.T) {
	at := func(from, to, metres int, both bool) api.StStreet {
		return api.StStreet{From: from, To: to, Metres: metres, Both: both, Shows: []int{0}}
	}
	for i, c := range []struct {
		streets []api.StStreet
		steps   []api.StStep
	}{
		// Fewer steps come before lower numbers of streets.
		{[]api.StStreet{at(0, 1, 10, false), at(1, 2, 10, false), at(0, 2, 20, false)}, by(2)},
		{[]api.StStreet{at(0, 1, 10, false), at(1, 2, 10, false), at(0, 2, 21, false)}, by(0, 1)},
		// The first street decides before the last one.
		{[]api.StStreet{at(3, 2, 10, false), at(0, 1, 10, false), at(0, 3, 10, false), at(1, 2, 10, false)}, by(1, 3)},
		{[]api.StStreet{at(1, 2, 10, false), at(0, 3, 10, false), at(0, 1, 10, false), at(3, 2, 10, false)}, by(1, 3)},
		// Fewer metres now do not mean fewer at the end.
		{[]api.StStreet{at(0, 1, 5, false), at(0, 3, 10, false), at(1, 2, 15, false), at(3, 2, 9, false)}, by(1, 3)},
		{[]api.StStreet{at(0, 1, 5, false), at(0, 3, 10, false), at(1, 2, 15, false), at(3, 2, 10, false)}, by(0, 2)},
		// The same street twice.
		{[]api.StStreet{at(0, 2, 10, false), at(0, 2, 10, false)}, by(0)},
		{[]api.StStreet{at(0, 2, 10, false), at(0, 2, 9, false)}, by(1)},
		// Driven back, or there.
		{[]api.StStreet{at(2, 0, 10, true), at(0, 2, 10, true)}, by(-1)},
		{[]api.StStreet{at(0, 2, 10, true), at(2, 0, 10, true)}, by(0)},
		{[]api.StStreet{at(2, 0, 10, false), at(0, 2, 10, false)}, by(1)},
	} {
		town := plain(4, 0, 1, 0)
		town.Streets = c.streets
		if tour, e := street.Find(town, task(0, 2, 0, 0)); !slices.Equal(tour.Steps, c.steps) || e != api.OK {
			t.Errorf("%d: Find = %v, %d", i, tour, e)
		}
	}
}

// taskErrors are tasks in the example, and their errors.
var taskErrors = []struct {
	k api.StTask
	e api.Errno
}{
	{task(-1, home, 0, am), api.ErrNone}, {task(4, home, 0, am), api.ErrNone}, {task(home, -1, 0, am), api.ErrNone}, {task(home, 4, 0, am), api.ErrNone}, {task(math.MaxInt, math.MinInt, 0, am), api.ErrNone},
	{task(home, home, 0, -1), api.ErrNone}, {task(home, home, 0, 2), api.ErrNone}, {task(home, home, 0, math.MaxInt), api.ErrNone},
	{task(home, home, -1, am), api.ErrRange}, {task(home, home, 4, am), api.ErrRange}, {task(home, home, math.MinInt, am), api.ErrRange}, {task(home, home, math.MaxInt, am), api.ErrRange},
	{task(home, home, 0, am, make([]int, 41)...), api.ErrLong},
	{task(home, home, 0, am, -1), api.ErrNone}, {task(home, home, 0, am, 4), api.ErrNone}, {task(home, home, 0, am, 0, 1, 2, 3, math.MaxInt), api.ErrNone},
	// The first one of several.
	{task(4, home, 4, am, make([]int, 41)...), api.ErrNone}, {task(home, home, 4, 2), api.ErrNone}, {task(home, home, 4, am, -1), api.ErrRange}, {task(home, home, 4, am, make([]int, 41)...), api.ErrRange},
	{task(home, home, 0, am, slices.Repeat([]int{4}, 41)...), api.ErrLong}, {task(home, depot, 0, am, 4), api.ErrNone},
}

func TestFindOfWrongTasks(t *testing.T) {
	for i, c := range taskErrors {
		if tour, e := street.Find(example(), c.k); e != c.e || !reflect.DeepEqual(tour, api.StTour{}) {
			t.Errorf("%d: Find = %v, %d", i, tour, e)
		}
		if tour, e := street.Find(wrongTown(), c.k); e != api.ErrTwice || !reflect.DeepEqual(tour, api.StTour{}) {
			t.Errorf("%d: Find in a wrong town = %v, %d", i, tour, e)
		}
	}
	// As many closed streets as there may be.
	if tour, e := street.Find(example(), task(home, ring, 0, am, make([]int, 40)...)); e != api.OK || tour.Metres != 400 {
		t.Errorf("Find with street 0 closed 40 times = %v, %d", tour, e)
	}
}

// TestFindAgainstAllTours checks P3.6: all tours that are not longer are tried.
func TestFindAgainstAllTours(t *testing.T) {
	r := rand.New(rand.NewSource(6))
	found, none := 0, 0
	for range 3000 {
		town := randomTown(r, 3, 2, 4, 3)
		k := randomTask(r, town)
		tour, e := street.Find(town, k)
		switch e {
		case api.OK:
			found++
			does := false
			allTours(town, k, tour.Metres, len(town.Places)<<len(town.Shows), func(other []api.StStep) {
				c := compareTours(town, tour.Steps, other)
				does = does || c == 0
				if c > 0 {
					t.Fatalf("%v, %v: Find = %v, but there is %v", town, k, tour, other)
				}
			})
			if !does {
				t.Fatalf("%v, %v: Find = %v, which does not do the task", town, k, tour)
			}
		case api.ErrDown:
			none++
			allTours(town, k, math.MaxInt, 8, func(other []api.StStep) {
				t.Fatalf("%v, %v: Find = ErrDown, but there is %v", town, k, other)
			})
		default:
			t.Fatalf("%v, %v: Find = %d", town, k, e)
		}
	}
	if found < 500 || none < 500 {
		t.Errorf("%d tours found, %d not", found, none)
	}
}

// TestFindAgainstLongerTours checks P3.3 and P3.6 in greater towns.
func TestFindAgainstLongerTours(t *testing.T) {
	r := rand.New(rand.NewSource(7))
	for range 400 {
		town := randomTown(r, 7, 4, 24, 4)
		k := randomTask(r, town)
		tour, metres := find(t, town, k)
		best, ok := bestTours(town, k)[reached{k.To, k.Show}]
		if ok != (metres >= 0) || !slices.Equal(best, tour.Steps) {
			t.Fatalf("%v, %v: Find = %v, %d metres, the best tour is %v", town, k, tour, metres, best)
		}
		if !ok {
			continue
		}
		driven, to, e := street.Drive(town, k.From, k.Time, tour.Steps)
		same := slices.Equal(driven.Steps, tour.Steps) && driven.Metres == metres && driven.Minutes == tour.Minutes && driven.Shown == tour.Shown
		if !same || to != k.To || k.Show&^driven.Shown != 0 || e != api.OK {
			t.Fatalf("%v, %v: Find = %v, which is driven as %v to %d, %d", town, k, tour, driven, to, e)
		}
	}
}

// TestFindWithMoreClosed checks P3.8.
func TestFindWithMoreClosed(t *testing.T) {
	r := rand.New(rand.NewSource(8))
	for range 1500 {
		town := randomTown(r, 6, 4, 20, 5)
		k := randomTask(r, town)
		tour, metres := find(t, town, k)
		more := k
		more.Show |= r.Intn(1 << len(town.Shows))
		if len(town.Streets) > 0 {
			more.Closed = append(slices.Clone(k.Closed), r.Intn(len(town.Streets)))
		}
		if _, other := find(t, town, more); other != -1 && (metres == -1 || other < metres) {
			t.Fatalf("%v: %v has %d metres, %v has %d", town, k, metres, more, other)
		}
		unused := k
		unused.Closed = nil
		for at := range town.Streets {
			if !slices.ContainsFunc(tour.Steps, func(s api.StStep) bool { return s.Street == at }) && r.Intn(2) == 0 {
				unused.Closed = append(unused.Closed, at)
			}
		}
		unused.Closed = append(unused.Closed, k.Closed...)
		if len(unused.Closed) > 40 {
			continue
		}
		if other, n := find(t, town, unused); n != metres || !reflect.DeepEqual(other, tour) {
			t.Fatalf("%v: %v has %v, %v has %v", town, k, tour, unused, other)
		}
	}
}

// TestFindByAnotherPlace checks P3.9.
func TestFindByAnotherPlace(t *testing.T) {
	r := rand.New(rand.NewSource(9))
	for range 1500 {
		town := randomTown(r, 6, 4, 20, 5)
		k := randomTask(r, town)
		first, second := k, k
		first.To = r.Intn(len(town.Places))
		second.From = first.To
		first.Show = k.Show & r.Intn(1<<len(town.Shows))
		second.Show = k.Show &^ first.Show
		_, metres := find(t, town, k)
		_, a := find(t, town, first)
		_, b := find(t, town, second)
		if a != -1 && b != -1 && (metres == -1 || a+b < metres) {
			t.Fatalf("%v, %v: %d metres, but by way of %d there are %d and %d", town, k, metres, first.To, a, b)
		}
	}
}

// TestFindOfTheWayBack checks P3.10.
func TestFindOfTheWayBack(t *testing.T) {
	r := rand.New(rand.NewSource(10))
	for range 1500 {
		town := randomTown(r, 6, 4, 20, 5)
		for i := range town.Streets {
			town.Streets[i].Both = true
		}
		k := randomTask(r, town)
		back := k
		back.From, back.To = k.To, k.From
		_, a := find(t, town, k)
		if _, b := find(t, town, back); a != b {
			t.Fatalf("%v, %v: %d metres there, %d back", town, k, a, b)
		}
	}
}

// TestFindInTheGreatestTown finds a tour in a town that has as many of all as
// there can be: a ring of streets, and those that show something lead across it.
func TestFindInTheGreatestTown(t *testing.T) {
	town := plain(16, 6, 4, 40)
	for i := range town.Streets {
		s := &town.Streets[i]
		s.From, s.To, s.Metres, s.Both = i%16, (i+1)%16, 10000, i < 32
		if i >= 32 {
			s.From, s.To = i-32, i-24
			s.Shows = slices.Repeat([]int{1 << (i % 6)}, 4)
		}
	}
	tour, e := street.Find(town, task(0, 0, 63, 3))
	best := bestTours(town, task(0, 0, 63, 3))[reached{0, 63}]
	if e != api.OK || !slices.Equal(tour.Steps, best) || tour.Metres != 10000*len(best) || tour.Shown != 63 {
		t.Errorf("Find = %v, %d, the best tour is %v", tour, e, best)
	}
	all, e := street.Table(town, task(0, 0, 63, 3))
	if e != api.OK || len(all) != 16 || len(all[0]) != 64 || all[0][63] != tour.Metres {
		t.Errorf("Table = %v, %d", all, e)
	}
}

package street_test

import (
	"fmt"
	"math"
	"math/rand"
	"slices"
	"strings"
	"testing"

	"bitepoint/api"
	"bitepoint/street"
)

// The places, the sets and the times of the example.
const (
	home, hill, ring, depot = 0, 1, 2, 3
	tram, bend              = 1, 2
	am, pm                  = 0, 1
)

// span is a span.
func span(lo, hi int) api.Span { return api.Span{Lo: lo, Hi: hi} }

// example is W of the document's examples.
func example() api.StTown {
	return api.StTown{
		Places: []string{"home", "hill", "ring", "depot"},
		Shows:  []string{"tram", "bend"},
		Times:  []string{"am", "pm"},
		Streets: []api.StStreet{
			{From: home, To: hill, Metres: 300, Minutes: span(1, 2), Both: true, Shows: []int{bend, bend}},
			{From: hill, To: ring, Metres: 500, Minutes: span(2, 3), Both: true, Shows: []int{0, tram}},
			{From: home, To: ring, Metres: 400, Minutes: span(1, 4), Shows: []int{0, 0}},
			{From: ring, To: home, Metres: 600, Minutes: span(2, 2), Shows: []int{tram, tram}},
		},
	}
}

// named is so many names that begin with a letter.
func named(letter string, many int) []string {
	var list []string
	for i := range many {
		list = append(list, fmt.Sprint(letter, i))
	}
	return list
}

// plain is a town with so many of all. All its streets go from the place 0 to
// the place 1.
func plain(places, shows, times, streets int) api.StTown {
	t := api.StTown{Places: named("p", places), Shows: named("s", shows), Times: named("t", times)}
	for range streets {
		t.Streets = append(t.Streets, api.StStreet{From: 0, To: 1, Metres: 1, Shows: make([]int, times)})
	}
	return t
}

// randomTown is a town with at most so many of all, whose streets have at most
// so many metres: with few of them many tours are as long.
func randomTown(r *rand.Rand, places, shows, streets, metres int) api.StTown {
	t := plain(2+r.Intn(places-1), r.Intn(shows+1), 1+r.Intn(2), r.Intn(streets+1))
	for i := range t.Streets {
		s := &t.Streets[i]
		s.From = r.Intn(len(t.Places))
		s.To = (s.From + 1 + r.Intn(len(t.Places)-1)) % len(t.Places)
		s.Metres, s.Minutes.Lo, s.Both = 1+r.Intn(metres), r.Intn(30), r.Intn(2) == 0
		s.Minutes.Hi = s.Minutes.Lo + r.Intn(31)
		for time := range s.Shows {
			if r.Intn(3) == 0 {
				s.Shows[time] = r.Intn(1 << len(t.Shows))
			}
		}
	}
	return t
}

// randomTask is a task in a town.
func randomTask(r *rand.Rand, t api.StTown) api.StTask {
	k := api.StTask{From: r.Intn(len(t.Places)), To: r.Intn(len(t.Places)), Show: r.Intn(1 << len(t.Shows)), Time: r.Intn(len(t.Times))}
	for at := range t.Streets {
		if r.Intn(10) == 0 {
			k.Closed = append(k.Closed, at)
		}
	}
	return k
}

// cloneTown is a copy of a town, without shared memory.
func cloneTown(t api.StTown) api.StTown {
	t.Places, t.Shows, t.Times, t.Streets = slices.Clone(t.Places), slices.Clone(t.Shows), slices.Clone(t.Times), slices.Clone(t.Streets)
	for i := range t.Streets {
		t.Streets[i].Shows = slices.Clone(t.Streets[i].Shows)
	}
	return t
}

// wrongTown is the example with an error: ErrTwice of the second show.
func wrongTown() api.StTown {
	t := example()
	t.Shows[1] = "tram"
	return t
}

// checkCase is a change of the example, and what Check returns for it.
type checkCase struct {
	what     string
	change   func(t *api.StTown)
	part, at int
	e        api.Errno
}

// checkAll checks what Check returns for changes of the example.
func checkAll(t *testing.T, cases []checkCase) {
	t.Helper()
	for _, c := range cases {
		town := example()
		c.change(&town)
		if part, at, e := street.Check(town); part != c.part || at != c.at || e != c.e {
			t.Errorf("%s: Check = %d, %d, %d", c.what, part, at, e)
		}
	}
}

func TestCheckOfNumbersOfAll(t *testing.T) {
	for _, c := range []struct {
		places, shows, times, streets int
		e                             api.Errno
	}{
		{1, 0, 1, 0, api.OK}, {16, 6, 4, 40, api.OK}, {2, 0, 4, 1, api.OK},
		{0, 0, 1, 0, api.ErrLong}, {17, 0, 1, 0, api.ErrLong}, {1, 7, 1, 0, api.ErrLong}, {1, 0, 0, 0, api.ErrLong}, {1, 0, 5, 0, api.ErrLong}, {2, 0, 1, 41, api.ErrLong},
		{0, 0, 0, 0, api.ErrLong}, {17, 7, 5, 41, api.ErrLong}, {100, 100, 100, 100, api.ErrLong},
	} {
		wantPart := 1
		if c.e == api.OK {
			wantPart = 0
		}
		if part, at, e := street.Check(plain(c.places, c.shows, c.times, c.streets)); part != wantPart || at != 0 || e != c.e {
			t.Errorf("%v: Check = %d, %d, %d", c, part, at, e)
		}
	}
}

func TestCheckOfNames(t *testing.T) {
	checkAll(t, []checkCase{
		{"the example", func(t *api.StTown) {}, 0, 0, api.OK},
		{"place without a name", func(t *api.StTown) { t.Places[2] = "Ring" }, 2, 2, api.ErrForm},
		{"empty place", func(t *api.StTown) { t.Places[0] = "" }, 2, 0, api.ErrForm},
		{"long place", func(t *api.StTown) { t.Places[3] = strings.Repeat("a", 17) }, 2, 3, api.ErrForm},
		{"longest place", func(t *api.StTown) { t.Places[3] = strings.Repeat("a", 16) }, 0, 0, api.OK},
		{"same place", func(t *api.StTown) { t.Places[3] = "hill" }, 2, 3, api.ErrTwice},
		{"show without a name", func(t *api.StTown) { t.Shows[1] = "1" }, 3, 1, api.ErrForm},
		{"same show", func(t *api.StTown) { t.Shows[1] = "tram" }, 3, 1, api.ErrTwice},
		{"time without a name", func(t *api.StTown) { t.Times[0] = "a m" }, 4, 0, api.ErrForm},
		{"same time", func(t *api.StTown) { t.Times[1] = "am" }, 4, 1, api.ErrTwice},
		{"same names in all lists", func(t *api.StTown) { t.Shows[0], t.Times[0], t.Places[0] = "am", "am", "am" }, 0, 0, api.OK},
		{"form before twice", func(t *api.StTown) { t.Places[1], t.Places[2] = "-", "-" }, 2, 1, api.ErrForm},
		{"the first place", func(t *api.StTown) { t.Places[1], t.Places[2] = "home", "" }, 2, 1, api.ErrTwice},
	})
}

func TestCheckOfStreets(t *testing.T) {
	checkAll(t, []checkCase{
		{"from no place", func(t *api.StTown) { t.Streets[1].From = 4 }, 5, 1, api.ErrNone},
		{"to no place", func(t *api.StTown) { t.Streets[3].To = -1 }, 5, 3, api.ErrNone},
		{"far beyond all places", func(t *api.StTown) { t.Streets[0].To = math.MaxInt }, 5, 0, api.ErrNone},
		{"to the last place", func(t *api.StTown) { t.Streets[0].To = depot }, 0, 0, api.OK},
		{"to where it begins", func(t *api.StTown) { t.Streets[2].To = home }, 5, 2, api.ErrArg},
		{"too few shows", func(t *api.StTown) { t.Streets[1].Shows = []int{0} }, 5, 1, api.ErrLong},
		{"too many shows", func(t *api.StTown) { t.Streets[1].Shows = []int{0, 0, 0} }, 5, 1, api.ErrLong},
		{"no metres", func(t *api.StTown) { t.Streets[1].Metres = 0 }, 5, 1, api.ErrRange},
		{"fewer metres than none", func(t *api.StTown) { t.Streets[1].Metres = math.MinInt }, 5, 1, api.ErrRange},
		{"a metre", func(t *api.StTown) { t.Streets[1].Metres = 1 }, 0, 0, api.OK},
		{"10000 metres", func(t *api.StTown) { t.Streets[1].Metres = 10000 }, 0, 0, api.OK},
		{"10001 metres", func(t *api.StTown) { t.Streets[1].Metres = 10001 }, 5, 1, api.ErrRange},
		{"least minutes -1", func(t *api.StTown) { t.Streets[0].Minutes.Lo = -1 }, 5, 0, api.ErrRange},
		{"most minutes 61", func(t *api.StTown) { t.Streets[0].Minutes.Hi = 61 }, 5, 0, api.ErrRange},
		{"least minutes 61", func(t *api.StTown) { t.Streets[0].Minutes = span(61, 60) }, 5, 0, api.ErrRange},
		{"most minutes -1", func(t *api.StTown) { t.Streets[0].Minutes = span(0, -1) }, 5, 0, api.ErrRange},
		{"from 0 to 60 minutes", func(t *api.StTown) { t.Streets[0].Minutes = span(0, 60) }, 0, 0, api.OK},
		{"from 60 to 60 minutes", func(t *api.StTown) { t.Streets[0].Minutes = span(60, 60) }, 0, 0, api.OK},
		{"from 3 to 2 minutes", func(t *api.StTown) { t.Streets[3].Minutes.Lo = 3 }, 5, 3, api.ErrArg},
		{"shows less than nothing", func(t *api.StTown) { t.Streets[2].Shows[0] = -1 }, 5, 2, api.ErrRange},
		{"shows more than there is", func(t *api.StTown) { t.Streets[2].Shows[1] = 4 }, 5, 2, api.ErrRange},
		{"shows all", func(t *api.StTown) { t.Streets[2].Shows[1] = 3 }, 0, 0, api.OK},
		{"shows something where nothing is", func(t *api.StTown) { t.Shows = nil }, 5, 0, api.ErrRange},
	})
}

func TestCheckNamesTheFirstError(t *testing.T) {
	checkAll(t, []checkCase{
		{"1 before 2", func(t *api.StTown) { t.Streets, t.Places[0] = make([]api.StStreet, 41), "" }, 1, 0, api.ErrLong},
		{"2 before 3", func(t *api.StTown) { t.Places[3], t.Shows[0] = "home", "" }, 2, 3, api.ErrTwice},
		{"3 before 4", func(t *api.StTown) { t.Shows[1], t.Times[0] = "tram", "" }, 3, 1, api.ErrTwice},
		{"4 before 5", func(t *api.StTown) { t.Times[1], t.Streets[0].From = "am", 9 }, 4, 1, api.ErrTwice},
		{"the first street", func(t *api.StTown) { t.Streets[1].Minutes.Lo, t.Streets[2].From = 4, 9 }, 5, 1, api.ErrArg},
		{"no place before the same", func(t *api.StTown) { t.Streets[1].From, t.Streets[1].To = 4, 4 }, 5, 1, api.ErrNone},
		{"the same before shows", func(t *api.StTown) { t.Streets[1].From, t.Streets[1].Shows = ring, nil }, 5, 1, api.ErrArg},
		{"shows before metres", func(t *api.StTown) { t.Streets[1].Shows, t.Streets[1].Metres = nil, 0 }, 5, 1, api.ErrLong},
		{"shows before minutes", func(t *api.StTown) { t.Streets[1].Shows, t.Streets[1].Minutes.Lo = nil, 4 }, 5, 1, api.ErrLong},
		{"metres before minutes", func(t *api.StTown) { t.Streets[1].Metres, t.Streets[1].Minutes.Lo = 0, 4 }, 5, 1, api.ErrRange},
		{"range before order of minutes", func(t *api.StTown) { t.Streets[1].Minutes = span(5, -1) }, 5, 1, api.ErrRange},
		{"a set before order of minutes", func(t *api.StTown) { t.Streets[1].Minutes.Lo, t.Streets[1].Shows[1] = 4, 4 }, 5, 1, api.ErrRange},
	})
}

package lesson_test

import (
	"math"
	"math/rand"
	"reflect"
	"slices"
	"testing"

	"bitepoint/api"
	"bitepoint/lesson"
)

// taught is a lesson from a minute to another one, and from a place to another
// one.
func taught(begin, end, from, to int) api.LeLesson {
	return api.LeLesson{Begin: begin, End: end, From: from, To: to}
}

// example is D of the document's examples.
func example() api.LeDay {
	return api.LeDay{
		Minutes: [][]int{{0, 10}, {10, 0}},
		Lessons: []api.LeLesson{taught(60, 120, 0, 0), taught(120, 180, 0, 1), taught(125, 170, 1, 1), taught(190, 250, 0, 0)},
	}
}

// table is a table of minutes between so many places, all as far apart.
func table(places, minutes int) [][]int {
	all := make([][]int, places)
	for from := range all {
		all[from] = make([]int, places)
		for to := range all[from] {
			if from != to {
				all[from][to] = minutes
			}
		}
	}
	return all
}

// randomDay is a day with so many lessons, all within so many minutes. Some
// ways are longer than those by another place.
func randomDay(r *rand.Rand, lessons, within int) api.LeDay {
	d := api.LeDay{Minutes: table(1+r.Intn(4), 0)}
	for from := range d.Minutes {
		for to := range d.Minutes[from] {
			if from != to {
				d.Minutes[from][to] = r.Intn(1 + r.Intn(41))
			}
		}
	}
	for range lessons {
		l := taught(r.Intn(within), 0, r.Intn(len(d.Minutes)), r.Intn(len(d.Minutes)))
		l.End = l.Begin + 1 + r.Intn(min(within-l.Begin, 60))
		d.Lessons = append(d.Lessons, l)
	}
	return d
}

// cloneDay is a copy of a day, without shared memory.
func cloneDay(d api.LeDay) api.LeDay {
	d.Minutes, d.Lessons = slices.Clone(d.Minutes), slices.Clone(d.Lessons)
	for i := range d.Minutes {
		d.Minutes[i] = slices.Clone(d.Minutes[i])
	}
	return d
}

// canFollow is whether the lesson b can follow the lesson a, literally.
func canFollow(d api.LeDay, a, b int) bool {
	other, this := d.Lessons[a], d.Lessons[b]
	return other.End+d.Minutes[other.To][this.From] <= this.Begin
}

// checkCase is a change of the example, and what Check returns for it.
type checkCase struct {
	what     string
	change   func(d *api.LeDay)
	part, at int
	e        api.Errno
}

// checkAll checks what Check returns for changes of the example, and that all
// functions with a day return its error first.
func checkAll(t *testing.T, cases []checkCase) {
	t.Helper()
	for _, c := range cases {
		d := example()
		c.change(&d)
		if part, at, e := lesson.Check(d); part != c.part || at != c.at || e != c.e {
			t.Errorf("%s: Check = %d, %d, %d", c.what, part, at, e)
		}
		all, e1 := lesson.Follow(d)
		chains, e2 := lesson.Chains(d)
		before, behind, e3 := lesson.Cover(d)
		n, e4 := lesson.Proves(d, of(-1), of(3, 3))
		_, e5 := lesson.Broken(api.LePlan{System: system(), Day: d, Cars: make([]api.LeCar, 9)})
		if e1 != c.e || e2 != c.e || e3 != c.e || c.e != api.OK && (e4 != c.e || e5 != c.e) {
			t.Errorf("%s: Follow %d, Chains %d, Cover %d, Proves %d, Broken %d", c.what, e1, e2, e3, e4, e5)
		}
		if c.e != api.OK && (all != nil || chains != nil || before != nil || behind != nil || n != 0) {
			t.Errorf("%s: Follow %v, Chains %v, Cover %v %v, Proves %d", c.what, all, chains, before, behind, n)
		}
	}
}

func TestCheckOfNumbersOfAll(t *testing.T) {
	many := func(places, lessons int) func(d *api.LeDay) {
		return func(d *api.LeDay) {
			d.Minutes = table(places, 1)
			d.Lessons = slices.Repeat([]api.LeLesson{taught(0, 1, 0, 0)}, lessons)
		}
	}
	checkAll(t, []checkCase{
		{"the example", func(d *api.LeDay) {}, 0, 0, api.OK},
		{"a place, no lesson", many(1, 0), 0, 0, api.OK},
		{"16 places, 12 lessons", many(16, 12), 0, 0, api.OK},
		{"no place", many(0, 0), 1, 0, api.ErrLong},
		{"no place, but lessons", many(0, 1), 1, 0, api.ErrLong},
		{"17 places", many(17, 0), 1, 0, api.ErrLong},
		{"13 lessons", many(1, 13), 1, 0, api.ErrLong},
		{"too many of all", many(100, 100), 1, 0, api.ErrLong},
		{"nothing", func(d *api.LeDay) { *d = api.LeDay{} }, 1, 0, api.ErrLong},
	})
}

func TestCheckOfMinutes(t *testing.T) {
	checkAll(t, []checkCase{
		{"a short row", func(d *api.LeDay) { d.Minutes[1] = of(10) }, 2, 1, api.ErrLong},
		{"a long row", func(d *api.LeDay) { d.Minutes[0] = of(0, 10, 10) }, 2, 0, api.ErrLong},
		{"no row", func(d *api.LeDay) { d.Minutes[1] = nil }, 2, 1, api.ErrLong},
		{"less than no minutes", func(d *api.LeDay) { d.Minutes[1][0] = -1 }, 2, 1, api.ErrRange},
		{"120 minutes", func(d *api.LeDay) { d.Minutes[1][0] = 120 }, 0, 0, api.OK},
		{"121 minutes", func(d *api.LeDay) { d.Minutes[0][1] = 121 }, 2, 0, api.ErrRange},
		{"far too many minutes", func(d *api.LeDay) { d.Minutes[0][1] = math.MaxInt }, 2, 0, api.ErrRange},
		{"far too few minutes", func(d *api.LeDay) { d.Minutes[0][1] = math.MinInt }, 2, 0, api.ErrRange},
		{"no minutes to another place", func(d *api.LeDay) { d.Minutes[0][1] = 0 }, 0, 0, api.OK},
		{"other minutes on the way back", func(d *api.LeDay) { d.Minutes[0][1] = 15 }, 0, 0, api.OK},
		{"a minute to itself", func(d *api.LeDay) { d.Minutes[1][1] = 1 }, 2, 1, api.ErrArg},
		{"121 minutes to itself", func(d *api.LeDay) { d.Minutes[1][1] = 121 }, 2, 1, api.ErrRange},
		{"less than no minutes to itself", func(d *api.LeDay) { d.Minutes[0][0] = -1 }, 2, 0, api.ErrRange},
	})
}

func TestCheckOfLessons(t *testing.T) {
	checkAll(t, []checkCase{
		{"begins before the day", func(d *api.LeDay) { d.Lessons[1].Begin = -1 }, 3, 1, api.ErrRange},
		{"begins with the day", func(d *api.LeDay) { d.Lessons[1].Begin = 0 }, 0, 0, api.OK},
		{"ends with the day", func(d *api.LeDay) { d.Lessons[3].End = 1440 }, 0, 0, api.OK},
		{"ends behind the day", func(d *api.LeDay) { d.Lessons[3].End = 1441 }, 3, 3, api.ErrRange},
		{"begins behind the day", func(d *api.LeDay) { d.Lessons[3].Begin = 1441 }, 3, 3, api.ErrRange},
		{"ends before the day", func(d *api.LeDay) { d.Lessons[3].End = -1 }, 3, 3, api.ErrRange},
		{"ends far behind the day", func(d *api.LeDay) { d.Lessons[3].End = math.MaxInt }, 3, 3, api.ErrRange},
		{"begins far before the day", func(d *api.LeDay) { d.Lessons[3].Begin = math.MinInt }, 3, 3, api.ErrRange},
		{"no learner", func(d *api.LeDay) { d.Lessons[0].Learner = -1 }, 3, 0, api.ErrRange},
		{"the learner 7", func(d *api.LeDay) { d.Lessons[0].Learner = 7 }, 0, 0, api.OK},
		{"the learner 8", func(d *api.LeDay) { d.Lessons[0].Learner = 8 }, 3, 0, api.ErrRange},
		{"no teacher", func(d *api.LeDay) { d.Lessons[0].Teacher = -1 }, 3, 0, api.ErrRange},
		{"the teacher 7", func(d *api.LeDay) { d.Lessons[0].Teacher = 7 }, 0, 0, api.OK},
		{"the teacher 8", func(d *api.LeDay) { d.Lessons[0].Teacher = 8 }, 3, 0, api.ErrRange},
		{"no car", func(d *api.LeDay) { d.Lessons[0].Car = -1 }, 3, 0, api.ErrRange},
		{"the car 7", func(d *api.LeDay) { d.Lessons[0].Car = 7 }, 0, 0, api.OK},
		{"the car 8", func(d *api.LeDay) { d.Lessons[0].Car = 8 }, 3, 0, api.ErrRange},
		{"no minute", func(d *api.LeDay) { d.Lessons[2].End = 125 }, 3, 2, api.ErrArg},
		{"a minute", func(d *api.LeDay) { d.Lessons[2].End = 126 }, 0, 0, api.OK},
		{"ends before it begins", func(d *api.LeDay) { d.Lessons[2].End = 124 }, 3, 2, api.ErrArg},
		{"from no place", func(d *api.LeDay) { d.Lessons[2].From = 2 }, 3, 2, api.ErrNone},
		{"from less than a place", func(d *api.LeDay) { d.Lessons[2].From = -1 }, 3, 2, api.ErrNone},
		{"to no place", func(d *api.LeDay) { d.Lessons[2].To = 2 }, 3, 2, api.ErrNone},
		{"to less than a place", func(d *api.LeDay) { d.Lessons[2].To = math.MinInt }, 3, 2, api.ErrNone},
	})
}

func TestCheckNamesTheFirstError(t *testing.T) {
	checkAll(t, []checkCase{
		{"1 before 2", func(d *api.LeDay) { d.Minutes[0], d.Lessons = nil, make([]api.LeLesson, 13) }, 1, 0, api.ErrLong},
		{"2 before 3", func(d *api.LeDay) { d.Minutes[1][1], d.Lessons[0].Begin = 1, -1 }, 2, 1, api.ErrArg},
		{"the first row", func(d *api.LeDay) { d.Minutes[0][0], d.Minutes[1] = 1, nil }, 2, 0, api.ErrArg},
		{"the first lesson", func(d *api.LeDay) { d.Lessons[1].From, d.Lessons[2].Begin = 9, -1 }, 3, 1, api.ErrNone},
		{"numbers before minutes", func(d *api.LeDay) { d.Minutes[1] = of(-1, 1, 121) }, 2, 1, api.ErrLong},
		{"minutes before its own", func(d *api.LeDay) { d.Minutes[0] = of(1, 121) }, 2, 0, api.ErrRange},
		{"range before order", func(d *api.LeDay) { d.Lessons[1].End, d.Lessons[1].Car = 120, 8 }, 3, 1, api.ErrRange},
		{"range before places", func(d *api.LeDay) { d.Lessons[1].From, d.Lessons[1].Teacher = 9, 8 }, 3, 1, api.ErrRange},
		{"order before places", func(d *api.LeDay) { d.Lessons[1].From, d.Lessons[1].End = 9, 100 }, 3, 1, api.ErrArg},
	})
}

func TestFollow(t *testing.T) {
	at := func(change func(d *api.LeDay)) api.LeDay {
		d := example()
		change(&d)
		return d
	}
	for i, c := range []struct {
		d    api.LeDay
		want [][]int
	}{
		{example(), [][]int{{1, 3}, {3}, {3}, nil}},
		{at(func(d *api.LeDay) { d.Lessons[2].Begin = 129 }), [][]int{{1, 3}, {3}, {3}, nil}},
		{at(func(d *api.LeDay) { d.Lessons[2].Begin = 130 }), [][]int{{1, 2, 3}, {3}, {3}, nil}},
		{at(func(d *api.LeDay) { d.Lessons[1].Begin = 119 }), [][]int{{3}, {3}, {3}, nil}},
		{at(func(d *api.LeDay) { d.Minutes[1][0] = 11 }), [][]int{{1, 3}, nil, {3}, nil}},
		{at(func(d *api.LeDay) { d.Minutes[1][0] = 21 }), [][]int{{1, 3}, nil, nil, nil}},
		{at(func(d *api.LeDay) { d.Minutes[0][1] = 5 }), [][]int{{1, 2, 3}, {3}, {3}, nil}},
		{at(func(d *api.LeDay) { d.Lessons = []api.LeLesson{taught(1439, 1440, 0, 0), taught(0, 1439, 0, 0)} }), [][]int{nil, {0}}},
		{at(func(d *api.LeDay) { d.Lessons = d.Lessons[:1] }), [][]int{nil}},
		{at(func(d *api.LeDay) { d.Lessons = nil }), nil},
	} {
		if all, e := lesson.Follow(c.d); !slices.EqualFunc(all, c.want, slices.Equal[[]int]) || e != api.OK {
			t.Errorf("%d: Follow = %v, %d", i, all, e)
		}
	}
}

func TestFollowOfRandomDays(t *testing.T) {
	r := rand.New(rand.NewSource(43))
	for range 500 {
		d := randomDay(r, r.Intn(13), 30+r.Intn(1411))
		all, e := lesson.Follow(d)
		if len(all) != len(d.Lessons) || e != api.OK {
			t.Fatalf("Follow of %v = %v, %d", d, all, e)
		}
		for a := range d.Lessons {
			var want []int
			for b := range d.Lessons {
				if canFollow(d, a, b) {
					want = append(want, b)
				}
			}
			if !slices.Equal(all[a], want) {
				t.Fatalf("Follow of %v, %d = %v, not %v", d, a, all[a], want)
			}
		}
	}
}

// chainsOf is Chains, which must not fail.
func chainsOf(t *testing.T, d api.LeDay) [][]int {
	t.Helper()
	chains, e := lesson.Chains(d)
	if e != api.OK {
		t.Fatalf("Chains of %v = %v, %d", d, chains, e)
	}
	return chains
}

// TestChainsOfChangedDays has days with fewer minutes between places, with a
// lesson less, and with all lessons at another time.
func TestChainsOfChangedDays(t *testing.T) {
	r := rand.New(rand.NewSource(412))
	fewer, less := 0, 0
	for range 1000 {
		d := randomDay(r, 1+r.Intn(12), 200+r.Intn(400))
		chains := chainsOf(t, d)
		near := cloneDay(d)
		for from, row := range near.Minutes {
			for to := range row {
				near.Minutes[from][to] -= r.Intn(row[to] + 1)
			}
		}
		if n := len(chainsOf(t, near)); n > len(chains) {
			t.Fatalf("%v: %d chains, %d of %v", d, len(chains), n, near)
		} else if n < len(chains) {
			fewer++
		}
		without := cloneDay(d)
		out := r.Intn(len(without.Lessons))
		without.Lessons = slices.Delete(without.Lessons, out, out+1)
		n := len(chainsOf(t, without))
		if n < len(chains)-1 || n > len(chains)+1 {
			t.Fatalf("%v: %d chains, %d without %d", d, len(chains), n, out)
		}
		if n < len(chains) {
			less++
		}
		later, by := cloneDay(d), r.Intn(api.MaxLeDay-600)
		for i := range later.Lessons {
			later.Lessons[i].Begin += by
			later.Lessons[i].End += by
		}
		if moved := chainsOf(t, later); !reflect.DeepEqual(moved, chains) {
			t.Fatalf("%v: chains %v, %d minutes later %v", d, chains, by, moved)
		}
	}
	if fewer == 0 || less == 0 {
		t.Errorf("fewer chains with fewer minutes: %d, without a lesson: %d", fewer, less)
	}
	// Without the lesson in the middle, the other two can't follow each other.
	d := api.LeDay{Minutes: [][]int{{0, 10}, {100, 0}}, Lessons: []api.LeLesson{taught(0, 10, 0, 1), taught(10, 20, 1, 0), taught(20, 30, 0, 0)}}
	if n := len(chainsOf(t, d)); n != 1 {
		t.Errorf("%d chains, not 1", n)
	}
	d.Lessons = slices.Delete(d.Lessons, 1, 2)
	if n := len(chainsOf(t, d)); n != 2 {
		t.Errorf("%d chains without the one in the middle, not 2", n)
	}
}

package register_test

import (
	"math"
	"slices"
	"testing"

	"bitepoint/api"
	"bitepoint/register"
)

// spans are spans: two days of each, one behind the other.
func spans(days ...int) []api.Span {
	var all []api.Span
	for at := 0; at+1 < len(days); at += 2 {
		all = append(all, api.Span{Lo: days[at], Hi: days[at+1]})
	}
	return all
}

// limits are the rules of the example with other limits.
func limits(limit, fall, ban int) api.RgRules {
	return changed(func(r *api.RgRules) { r.Limit, r.Fall, r.Ban = limit, fall, ban })
}

// banCases are rules and persons, and on which days they are banned.
var banCases = []struct {
	r    api.RgRules
	p    api.RgPerson
	want []api.Span
}{
	{example(), ann(), spans(7200, 7250, 7501, 7590)},
	{example(), person(0), nil},
	{example(), person(0, pass(6000, am, 0, 0), renew(6000, am), exchange(8000, 0)), nil},
	// Bans by courts: apart, next to each other, within each other.
	{example(), person(0, court(5, 5)), spans(5, 5)},
	{example(), person(0, court(0, 40000)), spans(0, 40000)},
	{example(), person(0, court(20, 30), court(5, 10)), spans(5, 10, 20, 30)},
	{example(), person(0, court(12, 30), court(5, 10)), spans(5, 10, 12, 30)},
	{example(), person(0, court(11, 30), court(5, 10)), spans(5, 30)},
	{example(), person(0, court(10, 30), court(5, 10)), spans(5, 30)},
	{example(), person(0, court(5, 30), court(10, 12), court(14, 20), court(31, 31), court(33, 33)), spans(5, 31, 33, 33)},
	{example(), person(0, court(5, 30), court(5, 40), court(5, 35)), spans(5, 40)},
	{example(), person(0, court(5, 100), court(6, 7), court(50, 60), court(90, 101)), spans(5, 101)},
	{example(), person(0, court(39999, 39999), court(40000, 40000)), spans(39999, 40000)},
	// As many points as Limit, and one less.
	{example(), person(0, offence(10, 8)), spans(11, 100)},
	{example(), person(0, offence(10, 7)), nil},
	{example(), person(0, offence(10, 20)), spans(11, 100)},
	{limits(1, 1, 1), person(0, offence(10, 1)), spans(11, 11)},
	{limits(100, 40000, 40000), person(0, offence(10, 20), offence(11, 20), offence(12, 20), offence(13, 20), offence(14, 19)), nil},
	{limits(100, 40000, 40000), person(0, offence(10, 20), offence(11, 20), offence(12, 20), offence(13, 20), offence(14, 20)), spans(15, 40000)},
	// Points of a day come together; the same offence is told twice.
	{example(), person(0, offence(10, 3), offence(10, 5)), spans(11, 100)},
	{example(), person(0, offence(10, 4), offence(10, 4)), nil},
	{example(), person(0, offence(10, 4), offence(11, 4)), spans(12, 101)},
	// Points are taken once, with all others that count.
	{example(), person(0, offence(10, 7), offence(11, 7), offence(12, 7)), spans(12, 101)},
	{example(), person(0, offence(10, 7), offence(11, 7), offence(12, 7), offence(13, 1)), spans(12, 103)},
	{example(), person(0, offence(10, 8), offence(20, 8)), spans(11, 110)},
	{example(), person(0, offence(10, 8), offence(100, 8)), spans(11, 190)},
	{example(), person(0, offence(10, 8), offence(101, 8)), spans(11, 100, 102, 191)},
	// Points fall away.
	{limits(8, 5, 3), person(0, offence(10, 4), offence(14, 4)), spans(15, 17)},
	{limits(8, 5, 3), person(0, offence(10, 4), offence(15, 4)), nil},
	{limits(8, 5, 3), person(0, offence(10, 4), offence(13, 3), offence(15, 4), offence(17, 1)), spans(18, 20)},
	{limits(8, 1, 3), person(0, offence(10, 4), offence(11, 4), offence(12, 7), offence(12, 1)), spans(13, 15)},
	// The end of all days.
	{example(), person(0, offence(39999, 8)), spans(40000, 40000)},
	{example(), person(0, offence(40000, 8)), nil},
	{example(), person(0, offence(39910, 8)), spans(39911, 40000)},
	{example(), person(0, offence(39909, 8)), spans(39910, 39999)},
	{example(), person(0, offence(40000, 20), court(39990, 39995)), spans(39990, 39995)},
	// Bans by courts and by points.
	{example(), person(0, offence(10, 8), court(101, 110)), spans(11, 110)},
	{example(), person(0, offence(10, 8), court(102, 110)), spans(11, 100, 102, 110)},
	{example(), person(0, offence(10, 8), court(5, 10)), spans(5, 100)},
	{example(), person(0, offence(10, 8), court(5, 9)), spans(5, 9, 11, 100)},
	{example(), person(0, offence(10, 8), court(50, 60), court(5, 500)), spans(5, 500)},
	// An offence during a ban.
	{example(), person(0, court(5, 20), offence(10, 8)), spans(5, 100)},
	{example(), person(10, court(10, 10), offence(10, 8)), spans(10, 100)},
}

// TestBans checks P11.3: the days on which somebody is banned.
func TestBans(t *testing.T) {
	for i, one := range banCases {
		if bans, e := register.Bans(one.r, one.p); !slices.Equal(bans, one.want) || e != api.OK {
			t.Errorf("case %d: Bans of %v = %v, %d, not %v", i, one.p, bans, e, one.want)
		}
	}
}

// pointCases are rules, persons and days, and how the points stand.
var pointCases = []struct {
	r                     api.RgRules
	p                     api.RgPerson
	day                   int
	counts, fallen, taken int
}{
	{example(), ann(), 6999, 0, 0, 0},
	{example(), ann(), 7000, 5, 0, 0},
	{example(), ann(), 7499, 5, 0, 0},
	{example(), ann(), 7500, 0, 0, 9},
	{example(), ann(), 7501, 0, 0, 9},
	{example(), ann(), 9000, 0, 0, 9},
	{example(), ann(), 40000, 0, 0, 9},
	{example(), person(0), 40000, 0, 0, 0},
	// A day before the day of birth.
	{example(), person(100, offence(100, 8)), 0, 0, 0, 0},
	{example(), person(100, offence(100, 8)), 99, 0, 0, 0},
	{example(), person(100, offence(100, 8)), 100, 0, 0, 8},
	// They fall away after Fall days.
	{example(), person(0, offence(10, 7)), 10, 7, 0, 0},
	{example(), person(0, offence(10, 7)), 1009, 7, 0, 0},
	{example(), person(0, offence(10, 7)), 1010, 0, 7, 0},
	{example(), person(0, offence(10, 7)), 40000, 0, 7, 0},
	{limits(8, 1, 1), person(0, offence(10, 7)), 10, 7, 0, 0},
	{limits(8, 1, 1), person(0, offence(10, 7)), 11, 0, 7, 0},
	{limits(8, 40000, 1), person(0, offence(0, 7)), 39999, 7, 0, 0},
	{limits(8, 40000, 1), person(0, offence(0, 7)), 40000, 0, 7, 0},
	// Those that were taken do not fall away, and those that have fallen away are not taken.
	{example(), person(0, offence(10, 8)), 5000, 0, 0, 8},
	{limits(8, 5, 3), person(0, offence(10, 4), offence(13, 3), offence(15, 4), offence(17, 1)), 14, 7, 0, 0},
	{limits(8, 5, 3), person(0, offence(10, 4), offence(13, 3), offence(15, 4), offence(17, 1)), 16, 7, 4, 0},
	{limits(8, 5, 3), person(0, offence(10, 4), offence(13, 3), offence(15, 4), offence(17, 1)), 17, 0, 4, 8},
	{limits(8, 5, 3), person(0, offence(10, 4), offence(13, 3), offence(15, 4), offence(17, 1)), 100, 0, 4, 8},
	{limits(8, 5, 3), person(0, offence(10, 4), offence(13, 3), offence(15, 4), offence(17, 1), offence(18, 2)), 18, 2, 4, 8},
	{limits(8, 5, 3), person(0, offence(10, 4), offence(13, 3), offence(15, 4), offence(17, 1), offence(18, 2)), 23, 0, 6, 8},
	// Twice the same is once.
	{example(), person(0, offence(10, 4), offence(10, 4)), 10, 4, 0, 0},
	{example(), person(0, offence(10, 4), offence(10, 3)), 10, 7, 0, 0},
	{example(), person(0, offence(10, 4), offence(10, 5)), 10, 0, 0, 9},
	// The end of all days.
	{example(), person(0, offence(40000, 8)), 40000, 0, 0, 8},
	{example(), person(0, offence(40000, 7)), 40000, 7, 0, 0},
	{limits(100, 40000, 1), person(0, offence(10, 20), offence(11, 20), offence(12, 20), offence(13, 20), offence(14, 19)), 14, 99, 0, 0},
}

// TestPoints checks P11.3: how points stand.
func TestPoints(t *testing.T) {
	for i, one := range pointCases {
		want := api.RgPoints{Counts: one.counts, Fallen: one.fallen, Taken: one.taken}
		if points, e := register.Points(one.r, one.p, one.day); points != want || e != api.OK {
			t.Errorf("case %d: Points of %v on %d = %v, %d, not %v", i, one.p, one.day, points, e, want)
		}
	}
	for _, day := range []int{-1, 40001, math.MinInt, math.MaxInt} {
		if points, e := register.Points(example(), ann(), day); points != (api.RgPoints{}) || e != api.ErrRange {
			t.Errorf("Points on %d = %v, %d", day, points, e)
		}
	}
}

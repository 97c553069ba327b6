package register_test

import (
	"math"
	"slices"
	"testing"

	"bitepoint/api"
	"bitepoint/register"
)

// The classes of school, and its codes.
const (
	moped, car, van, truck, bus = 0, 1, 2, 3, 4
	gears, night                = 1, 2
)

// school is rules in which classes need each other: a van, which includes a
// car, is driven by somebody with a car; a truck, which includes a van, by
// somebody with a car; a bus by somebody with a truck; a car is had for 2
// years, a truck for a year.
func school() api.RgRules {
	return api.RgRules{
		System: api.ClSystem{
			Classes: []api.ClClass{
				{Name: "moped", Needs: -1},
				{Name: "car", Includes: []int{moped}, Needs: -1, Age: 18, Term: 2},
				{Name: "van", Includes: []int{car}, Needs: car, Age: 18},
				{Name: "truck", Includes: []int{van}, Needs: car, Age: 21, Term: 1},
				{Name: "bus", Needs: truck, Age: 21, Term: 100},
			},
			Codes: []string{"gears", "night"},
		},
		Treaties: []api.RgTreaty{treaty("dover", car, gears, 7000, 7999), treaty("calais", van, 0, 7500, 8500)},
		Limit:    8, Fall: 1000, Ban: 90,
	}
}

// rights are rights: a class and codes of each, one behind the other.
func rights(numbers ...int) []api.ClRight {
	var all []api.ClRight
	for at := 0; at+1 < len(numbers); at += 2 {
		all = append(all, right(numbers[at], numbers[at+1]))
	}
	return all
}

// The days on which somebody who was born on the day 0 is 16, and 18, years
// old, and the first days of some years: they are 21 years old in 2021.
const (
	is16, is18             = 5844, 6575
	in2019, in2020, in2021 = 6940, 7305, 7671
)

// heldCases are rules, persons and days, and which rights are held.
var heldCases = []struct {
	r    api.RgRules
	p    api.RgPerson
	day  int
	want []api.ClRight
}{
	// The document's examples.
	{example(), ann(), 6550, rights(am, 0)},
	{example(), ann(), 7000, rights(b, 0)},
	{example(), ann(), 7510, nil},
	{example(), ann(), 8500, rights(b, 0)},
	{example(), ann(), 5999, nil},
	{example(), ann(), 6000, rights(am, 0)},
	{example(), ann(), 6599, rights(am, 0)},
	{example(), ann(), 6600, rights(b, 0)},
	{example(), ann(), 7199, rights(b, 0)},
	{example(), ann(), 7200, nil},
	{example(), ann(), 7250, nil},
	{example(), ann(), 7251, rights(b, 0)},
	{example(), ann(), 7500, rights(b, 0)},
	{example(), ann(), 7501, nil},
	{example(), ann(), 7590, nil},
	{example(), ann(), 7591, rights(b, 0)},
	// The pass of 2018-01-26 and the exchange are both renewed on 2032-11-08, to
	// 2047-11-08.
	{example(), ann(), 17477, rights(b, 0)},
	{example(), ann(), 17478, rights(am, 0)},
	{example(), ann(), 40000, rights(am, 0)},
	{example(), person(0), 40000, nil},
	{example(), person(40000), 40000, nil},
	// The age.
	{example(), person(0, pass(is16-1, am, 0, 0)), 40000, nil},
	{example(), person(0, pass(is16, am, 0, 0)), is16, rights(am, 0)},
	{example(), person(0, pass(is16, b, 0, 0)), 40000, nil},
	{example(), person(0, pass(is18-1, b, 0, 0)), 40000, nil},
	{example(), person(0, pass(is18, b, 0, 0)), is18, rights(b, 0)},
	// Somebody who was born on 2000-02-29: 2016-02-29 and 2018-02-28.
	{example(), person(59, pass(5902, am, 0, 0)), 40000, nil},
	{example(), person(59, pass(5903, am, 0, 0)), 40000, rights(am, 0)},
	{example(), person(59, pass(6632, b, 0, 0)), 6700, nil},
	{example(), person(59, pass(6633, b, 0, 0)), 6700, rights(b, 0)},
	{school(), person(100, pass(100, moped, 0, 0)), 100, rights(moped, 0)},
	// Treaties.
	{example(), person(0, exchange(7999, 0)), 8500, nil},
	{example(), person(0, exchange(8000, 0)), 8000, rights(b, manual)},
	{example(), person(0, exchange(9000, 0)), 9000, rights(b, manual)},
	{example(), person(0, exchange(9001, 0)), 9001, nil},
	{example(), person(5000, exchange(8500, 0)), 8500, nil},
	{example(), person(0, exchange(8500, 0), pass(8400, am, 0, 0)), 8500, rights(am, 0, b, manual)},
	{school(), person(0, exchange(7700, 1)), 7700, nil},
	{school(), person(0, exchange(7600, 0), exchange(7700, 1)), 7700, rights(van, 0)},
	{school(), person(0, exchange(7600, 0), exchange(7700, 0)), 7700, rights(car, gears)},
	// Banned on the day of the grant.
	{example(), person(0, pass(7000, b, 0, 0), court(7000, 7000)), 7001, nil},
	{example(), person(0, pass(7000, b, 0, 0), court(6990, 6999), court(7001, 7001)), 7002, rights(b, 0)},
	{example(), person(0, pass(7000, b, 0, 0), court(6990, 7000)), 7001, nil},
	{example(), person(0, pass(7000, b, 0, 0), offence(6999, 8)), 8000, nil},
	{example(), person(0, pass(7000, b, 0, 0), offence(7000, 8)), 7000, rights(b, 0)},
	{example(), person(0, pass(7000, b, 0, 0), offence(6909, 8)), 8000, rights(b, 0)},
	{example(), person(0, pass(7000, b, 0, 0), offence(6910, 8)), 8000, nil},
	{example(), person(0, exchange(8500, 0), court(8500, 8500)), 9000, nil},
	// The class that is needed: held, covered, on an earlier day, with any codes.
	{school(), person(0, pass(in2019, van, 0, 0)), in2019, nil},
	{school(), person(0, pass(in2019, car, 0, 0), pass(in2019, van, 0, 1)), in2019, rights(car, 0)},
	{school(), person(0, pass(in2019, car, 0, 0), pass(in2019+1, van, 0, 0)), in2019 + 1, rights(van, 0)},
	{school(), person(0, pass(in2019, car, gears|night, 0), pass(in2019+1, van, 0, 0)), in2019 + 1, rights(van, 0)},
	{school(), person(0, pass(in2019, moped, 0, 0), pass(in2019+1, van, 0, 0)), in2019 + 1, rights(moped, 0)},
	{school(), person(0, pass(is18-1, car, 0, 0), pass(in2019, van, 0, 0)), in2019, nil},
	{school(), person(0, pass(in2019+1, car, 0, 0), pass(in2019, van, 0, 0)), in2019 + 1, rights(car, 0)},
	{school(), person(0, pass(in2019, car, 0, 0), pass(in2019+10, van, 0, 0), pass(in2021, truck, gears, 0)), in2021, rights(van, 0, truck, gears)},
	{school(), person(0, pass(in2021, car, 0, 0), pass(in2021+1, truck, 0, 0), pass(in2021+2, bus, 0, 0)), in2021 + 2, rights(truck, 0, bus, 0)},
	{school(), person(0, pass(in2021, car, 0, 0), pass(in2021+1, bus, 0, 0)), in2021 + 2, rights(car, 0)},
	// A class that is needed and has ended: on its end it is too late.
	{school(), person(0, pass(in2019, car, 0, 0), pass(in2021-1, van, 0, 0)), in2021 + 9, rights(van, 0)},
	{school(), person(0, pass(in2019, car, 0, 0), pass(in2021, van, 0, 0)), in2021 + 9, nil},
	{school(), person(0, pass(in2019, car, 0, 0), renew(in2020, car), pass(in2021, van, 0, 0)), in2021 + 9, rights(van, 0)},
	// A class that is needed was there, and the ban is over.
	{school(), person(0, pass(in2019, car, 0, 0), court(in2019+1, in2019+5), pass(in2019+6, van, 0, 0)), in2019 + 6, rights(van, 0)},
	{school(), person(0, pass(in2019, car, 0, 0), court(in2019+1, in2019+5), pass(in2019+5, van, 0, 0)), in2019 + 6, rights(car, 0)},
	// The end.
	{school(), person(0, pass(in2019, car, 0, 0)), in2021 - 1, rights(car, 0)},
	{school(), person(0, pass(in2019, car, 0, 0)), in2021, nil},
	{school(), person(0, pass(in2019, car, 0, 0)), 40000, nil},
	{school(), person(0, pass(in2019, moped, 0, 0)), 40000, rights(moped, 0)},
	{school(), person(0, pass(in2021, car, 0, 0), pass(in2021+1, truck, 0, 0), pass(in2021+2, bus, 0, 0)), 40000, rights(bus, 0)},
	// From 2107-07-08 to 2109-07-08, the last day; a day later, and there is no end.
	{school(), person(0, pass(39269, car, 0, 0)), 39999, rights(car, 0)},
	{school(), person(0, pass(39269, car, 0, 0)), 40000, nil},
	{school(), person(0, pass(39270, car, 0, 0)), 40000, rights(car, 0)},
	{school(), person(0, pass(40000, car, 0, 0)), 40000, rights(car, 0)},
	// From 2020-02-29 to 2022-02-28.
	{school(), person(0, pass(7364, car, 0, 0)), 8093, rights(car, 0)},
	{school(), person(0, pass(7364, car, 0, 0)), 8094, nil},
	// Renewals: of just this class, from the day of the grant to the day before its end.
	{school(), person(0, pass(in2019, car, 0, 0), renew(in2020, car)), in2021, rights(car, 0)},
	{school(), person(0, pass(in2019, car, 0, 0), renew(in2020, car)), 8035, rights(car, 0)},
	{school(), person(0, pass(in2019, car, 0, 0), renew(in2020, car)), 8036, nil},
	{school(), person(0, pass(in2019, car, 0, 0), renew(in2019, car)), in2021 - 1, rights(car, 0)},
	{school(), person(0, pass(in2019, car, 0, 0), renew(in2019, car)), in2021, nil},
	{school(), person(0, pass(in2019, car, 0, 0), renew(in2019-1, car)), in2021, nil},
	{school(), person(0, pass(in2019, car, 0, 0), renew(in2021-1, car)), 8399, rights(car, 0)},
	{school(), person(0, pass(in2019, car, 0, 0), renew(in2021-1, car)), 8400, nil},
	{school(), person(0, pass(in2019, car, 0, 0), renew(in2021, car)), in2021, nil},
	{school(), person(0, pass(in2019, car, 0, 0), renew(in2020, truck), renew(in2020, moped)), in2021, nil},
	{school(), person(0, pass(in2019, car, 0, 0), renew(8000, car), renew(in2020, car)), 8700, rights(car, 0)},
	{school(), person(0, pass(in2019, car, 0, 0), renew(8000, car), renew(8036, car)), 8050, nil},
	{school(), person(0, pass(in2019, car, 0, 0), renew(39500, car), renew(8100, car)), 40000, nil},
	{school(), person(0, pass(39000, car, 0, 0), renew(39500, car)), 40000, rights(car, 0)},
	{school(), person(0, pass(39500, car, 0, 0), renew(39600, car)), 40000, rights(car, 0)},
	{school(), person(0, pass(in2019, car, 0, 0), renew(in2020, car), court(in2020, in2020)), in2021, nil},
	{school(), person(0, pass(in2019, car, 0, 0), renew(in2020, car), court(in2020-5, in2020-1), court(in2020+1, in2020+3)), in2021, rights(car, 0)},
	{school(), person(0, pass(in2019, car, 0, 0), renew(in2020, car), offence(in2020-1, 8)), in2021, nil},
	{school(), person(0, pass(in2019, car, 0, 0), renew(in2020, car), offence(in2020, 8)), in2021, rights(car, 0)},
	{school(), person(0, pass(in2019, moped, 0, 0), renew(in2020, moped)), 40000, rights(moped, 0)},
	// A renewal of all grants of the class, and of nothing that was not granted.
	{school(), person(0, pass(in2019, car, gears, 0), pass(in2019+9, car, night, 0), renew(in2020, car)), 8000, rights(car, gears, car, night)},
	{school(), person(0, renew(in2020, car)), in2020, nil},
	{school(), person(0, pass(is18-1, car, 0, 0), renew(in2020, car)), in2020, nil},
	// The least form.
	{school(), person(0, pass(in2019, car, gears|night, 0), pass(in2019, car, gears, 0), pass(in2019, moped, night, 0), pass(in2019, moped, gears, 0)), in2019, rights(moped, night, car, gears)},
	{school(), person(0, pass(in2019, moped, 0, 0), pass(in2019, car, gears, 0)), in2021 - 1, rights(moped, 0, car, gears)},
	{school(), person(0, pass(in2019, moped, 0, 0), pass(in2019, car, gears, 0)), in2021, rights(moped, 0)},
}

// TestHeld checks P11.4.
func TestHeld(t *testing.T) {
	for i, one := range heldCases {
		if held, e := register.Held(one.r, one.p, one.day); !slices.Equal(held, one.want) || e != api.OK {
			t.Errorf("case %d: Held of %v on %d = %v, %d, not %v", i, one.p, one.day, held, e, one.want)
		}
	}
	for _, one := range []struct {
		day int
		e   api.Errno
	}{{-1, api.ErrRange}, {40001, api.ErrRange}, {math.MinInt, api.ErrRange}, {math.MaxInt, api.ErrRange}, {0, api.ErrArg}, {99, api.ErrArg}, {100, api.OK}} {
		p := person(100, pass(100, moped, 0, 0))
		if held, e := register.Held(school(), p, one.day); e != one.e || e != api.OK && held != nil {
			t.Errorf("Held on %d = %v, %d, not %d", one.day, held, e, one.e)
		}
	}
}

// drive is that a vehicle was driven.
func drive(day, class, features int) api.RgDrive {
	return api.RgDrive{Day: day, Class: class, Features: features}
}

// whyCases are rules, persons and drives, and why these are not allowed.
var whyCases = []struct {
	r    api.RgRules
	p    api.RgPerson
	d    api.RgDrive
	want int
}{
	// The document's examples.
	{example(), ann(), drive(6550, b, 0), api.RgYoung},
	{example(), ann(), drive(7230, b, 0), api.RgCourt},
	{example(), ann(), drive(7510, b, 0), api.RgTaken},
	{example(), ann(), drive(5000, am, 0), api.RgNothing},
	{example(), ann(), drive(7000, b, 0), api.RgMay},
	{example(), ann(), drive(7000, b, manual), api.RgMay},
	{example(), ann(), drive(40000, b, 0), api.RgOver},
	{example(), ann(), drive(40000, am, manual), api.RgMay},
	// Bans come first, and that of a court before that by points.
	{example(), person(0, court(10, 20)), drive(9, am, 0), api.RgNothing},
	{example(), person(0, court(10, 20)), drive(10, am, 0), api.RgCourt},
	{example(), person(0, court(10, 20)), drive(20, am, 0), api.RgCourt},
	{example(), person(0, court(10, 20)), drive(21, am, 0), api.RgNothing},
	{example(), person(0, offence(10, 8)), drive(10, am, 0), api.RgNothing},
	{example(), person(0, offence(10, 8)), drive(11, am, 0), api.RgTaken},
	{example(), person(0, offence(10, 8)), drive(100, am, 0), api.RgTaken},
	{example(), person(0, offence(10, 8)), drive(101, am, 0), api.RgNothing},
	{example(), person(0, offence(10, 8), court(20, 30)), drive(20, am, 0), api.RgCourt},
	{example(), person(0, offence(10, 8), court(20, 30)), drive(31, am, 0), api.RgTaken},
	// Nothing was granted that allows the vehicle: no class that covers its, or
	// a code that excludes a feature, or not yet.
	{school(), person(0), drive(40000, moped, 0), api.RgNothing},
	{school(), person(0, pass(in2019, car, gears, 0)), drive(in2019, van, 0), api.RgNothing},
	{school(), person(0, pass(in2019, car, gears, 0)), drive(in2019, car, gears), api.RgNothing},
	{school(), person(0, pass(in2019, car, gears, 0)), drive(in2019, car, gears|night), api.RgNothing},
	{school(), person(0, pass(in2019, car, gears, 0)), drive(in2019, moped, night), api.RgMay},
	{school(), person(0, pass(in2019, car, gears, 0)), drive(in2019-1, car, 0), api.RgNothing},
	{school(), person(0, renew(in2019, car)), drive(in2019, car, 0), api.RgNothing},
	// Reasons: the first condition that is not met.
	{school(), person(0, pass(in2019, van, 0, 0)), drive(in2019, van, 0), api.RgWithout},
	{school(), person(0, pass(in2019, van, 0, 0)), drive(in2019, moped, 0), api.RgWithout},
	{school(), person(0, pass(is16, van, 0, 0)), drive(in2019, van, 0), api.RgYoung},
	{school(), person(0, exchange(6999, 1)), drive(in2020, van, 0), api.RgForeign},
	{school(), person(0, exchange(is16, 1)), drive(in2020, van, 0), api.RgForeign},
	{school(), person(1000, exchange(7500, 1)), drive(7500, van, 0), api.RgYoung},
	{school(), person(0, exchange(7500, 1)), drive(7500, van, 0), api.RgWithout},
	{school(), person(0, exchange(is16, 1), court(is16, is16)), drive(in2020, van, 0), api.RgThen},
	{school(), person(0, pass(is16, van, 0, 0), court(is16, is16)), drive(in2020, van, 0), api.RgThen},
	{school(), person(0, pass(is16, van, 0, 0), offence(is16-1, 8)), drive(in2020, van, 0), api.RgThen},
	{school(), person(0, pass(in2019, car, 0, 0)), drive(in2021-1, car, 0), api.RgMay},
	{school(), person(0, pass(in2019, car, 0, 0)), drive(in2021, car, 0), api.RgOver},
	{school(), person(0, pass(is16, car, 0, 0)), drive(in2021, car, 0), api.RgYoung},
	// The greatest of the reasons of all grants that allow the vehicle.
	{school(), person(0, pass(is16, car, 0, 0), pass(in2019, van, 0, 0)), drive(in2019, car, 0), api.RgWithout},
	{school(), person(0, pass(is16, car, 0, 0), pass(in2019, van, 0, 0)), drive(in2019-1, car, 0), api.RgYoung},
	{school(), person(0, pass(in2019, van, 0, 0), pass(in2019+1, car, 0, 0), pass(in2019+9, car, 0, 0), court(in2019+9, in2019+9)), drive(in2021, car, 0), api.RgMay},
	{school(), person(0, pass(in2019, van, 0, 0), pass(in2019+1, car, 0, 0), pass(in2019+9, car, 0, 0), court(in2019+9, in2019+9)), drive(in2021+1, car, 0), api.RgOver},
	{school(), person(0, pass(in2019, van, 0, 0), pass(in2019+1, car, 0, 0), pass(in2019+9, car, 0, 0), court(in2019+9, in2019+9)), drive(in2021+1, van, 0), api.RgWithout},
	{school(), person(0, exchange(6999, 0), pass(in2019, car, gears, 0), court(in2019, in2019)), drive(in2020, car, 0), api.RgForeign},
	{school(), person(0, exchange(6999, 0), pass(in2019, car, 0, 0), court(in2019, in2019)), drive(in2020, car, gears), api.RgThen},
	{school(), person(0, pass(in2019, moped, gears, 0), pass(in2020, moped, night, 0)), drive(in2020, moped, gears), api.RgMay},
	{school(), person(0, pass(in2019, moped, gears, 0), pass(in2020, moped, night, 0)), drive(in2020, moped, gears|night), api.RgNothing},
}

// TestWhy checks P11.5: why a drive is not allowed.
func TestWhy(t *testing.T) {
	for i, one := range whyCases {
		if why, e := register.Why(one.r, one.p, one.d); why != one.want || e != api.OK {
			t.Errorf("case %d: Why of %v and %v = %d, %d, not %d", i, one.p, one.d, why, e, one.want)
		}
	}
}

// driveErrors are drives of school by somebody who was born on the day 100, and
// their errors.
var driveErrors = []struct {
	d api.RgDrive
	e api.Errno
}{
	{drive(100, 0, 0), api.OK}, {drive(40000, 4, 3), api.OK},
	{drive(-1, 9, 9), api.ErrRange}, {drive(40001, 9, 9), api.ErrRange}, {drive(math.MinInt, 0, 0), api.ErrRange}, {drive(math.MaxInt, -1, -1), api.ErrRange},
	{drive(99, 9, 9), api.ErrArg}, {drive(0, 0, 0), api.ErrArg},
	{drive(100, 5, 9), api.ErrNone}, {drive(100, -1, -1), api.ErrNone}, {drive(100, math.MaxInt, 0), api.ErrNone}, {drive(100, math.MinInt, 0), api.ErrNone},
	{drive(100, 4, 4), api.ErrRange}, {drive(100, 0, -1), api.ErrRange}, {drive(100, 0, math.MaxInt), api.ErrRange}, {drive(100, 0, math.MinInt), api.ErrRange},
}

// TestErrorsOfDrives checks P11.5: the error of a drive, in Why and in Wrong, of
// which the first drive with an error decides.
func TestErrorsOfDrives(t *testing.T) {
	p := person(100, court(100, 40000))
	for _, one := range driveErrors {
		if why, e := register.Why(school(), p, one.d); e != one.e || e != api.OK && why != 0 {
			t.Errorf("Why of %v = %d, %d, not %d", one.d, why, e, one.e)
		}
		for _, other := range driveErrors {
			want := one.e
			if want == api.OK {
				want = other.e
			}
			if wrong, e := register.Wrong(school(), p, []api.RgDrive{drive(100, 0, 0), one.d, other.d}); e != want || e != api.OK && wrong != nil {
				t.Errorf("Wrong of %v, %v = %v, %d, not %d", one.d, other.d, wrong, e, want)
			}
		}
	}
	for many, want := range map[int]api.Errno{30: api.ErrRange, 31: api.ErrLong, 100000: api.ErrLong} {
		if wrong, e := register.Wrong(school(), p, slices.Repeat([]api.RgDrive{drive(-1, 0, 0)}, many)); wrong != nil || e != want {
			t.Errorf("Wrong of %d drives = %v, %d, not %d", many, wrong, e, want)
		}
	}
}

// TestWrong checks P11.5: which drives were not allowed.
func TestWrong(t *testing.T) {
	five := []api.RgDrive{drive(6550, b, 0), drive(7230, b, 0), drive(7510, b, 0), drive(5000, am, 0), drive(7000, b, 0)}
	wrongs := []api.RgWrong{{Drive: 0, Why: api.RgYoung}, {Drive: 1, Why: api.RgCourt}, {Drive: 2, Why: api.RgTaken}, {Drive: 3, Why: api.RgNothing}}
	for _, one := range []struct {
		drives []api.RgDrive
		want   []api.RgWrong
	}{
		{five, wrongs}, {nil, nil}, {[]api.RgDrive{}, nil}, {five[4:], nil}, {five[:1], wrongs[:1]},
		{[]api.RgDrive{five[4], five[4], five[2], five[4], five[2]}, []api.RgWrong{{Drive: 2, Why: api.RgTaken}, {Drive: 4, Why: api.RgTaken}}},
		{slices.Repeat(five[4:], 30), nil},
		{append(slices.Repeat(five[4:], 29), five[0]), []api.RgWrong{{Drive: 29, Why: api.RgYoung}}},
	} {
		if wrong, e := register.Wrong(example(), ann(), one.drives); !slices.Equal(wrong, one.want) || e != api.OK {
			t.Errorf("Wrong of %v = %v, %d, not %v", one.drives, wrong, e, one.want)
		}
	}
}

// pairs are pairs: two indices of each, one behind the other.
func pairs(indices ...int) []api.RgPair {
	var all []api.RgPair
	for at := 0; at+1 < len(indices); at += 2 {
		all = append(all, api.RgPair{A: indices[at], B: indices[at+1]})
	}
	return all
}

// TestImpostors checks P11.6.
func TestImpostors(t *testing.T) {
	thirty := person(0)
	var all []api.RgPair
	for n := range 30 {
		thirty.Events = append(thirty.Events, pass(0, am, 0, n))
		for m := range n {
			all = append(all, api.RgPair{A: m, B: n})
		}
	}
	slices.SortFunc(all, func(x, y api.RgPair) int { return (x.A-y.A)*100 + x.B - y.B })
	for i, one := range []struct {
		p    api.RgPerson
		want []api.RgPair
	}{
		{ann(), nil}, {person(0), nil}, {thirty, all},
		{person(0, append(ann().Events, pass(6000, am, 0, 30))...), pairs(0, 1)},
		// 59 and 60 minutes.
		{person(0, pass(0, am, 0, 100), pass(0, am, 0, 159)), pairs(0, 1)},
		{person(0, pass(0, am, 0, 100), pass(0, am, 0, 160)), nil},
		{person(0, pass(0, am, 0, 159), pass(0, b, 0, 100)), pairs(0, 1)},
		{person(0, pass(0, am, 0, 160), pass(0, b, 0, 100)), nil},
		{person(0, pass(0, am, 0, 0), pass(0, am, 0, 1439)), nil},
		// The same minute, but not the same test; the same test.
		{person(0, pass(0, am, 0, 5), pass(0, am, manual, 5)), pairs(0, 1)},
		{person(0, pass(0, am, 0, 5), pass(0, am, 0, 5)), nil},
		// Other days, other kinds.
		{person(0, pass(0, am, 0, 5), pass(1, am, 0, 5)), nil},
		{person(0, pass(0, am, 0, 1439), pass(1, am, 0, 0)), nil},
		{person(0, pass(8500, am, 0, 0), exchange(8500, 0), exchange(8500, 0), renew(8500, am), renew(8500, b), offence(8500, 1), court(8500, 8500)), nil},
		{person(0, exchange(0, 0), renew(0, am), renew(0, b), offence(0, 1), offence(0, 2), court(0, 0), court(0, 1)), nil},
		// By the indices in the events in order.
		{person(0, pass(9, b, 0, 50), pass(9, am, manual, 10), pass(9, am, 0, 100), pass(3, am, 0, 0), court(4, 4)), pairs(2, 4, 3, 4)},
		{person(0, pass(9, b, 0, 0), pass(9, b, 0, 59), pass(9, am, 0, 30), pass(9, am, 0, 100)), pairs(0, 2, 0, 3, 1, 3, 2, 3)},
		{person(0, pass(9, b, 0, 700), pass(8, b, 0, 700), pass(9, b, 0, 690), pass(8, b, 0, 705)), pairs(0, 1, 2, 3)},
	} {
		if found, e := register.Impostors(example(), one.p); !slices.Equal(found, one.want) || e != api.OK {
			t.Errorf("case %d: Impostors of %v = %v, %d, not %v", i, one.p, found, e, one.want)
		}
	}
}

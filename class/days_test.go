package class_test

import (
	"math"
	"testing"
	"time"

	"bitepoint/api"
	"bitepoint/class"
)

// date is a date.
func date(year, month, day int) api.ClDate { return api.ClDate{Year: year, Month: month, Day: day} }

func TestDaysOfTheCalendar(t *testing.T) {
	first := time.Date(2000, 1, 1, 0, 0, 0, 0, time.UTC)
	for day := range api.MaxDay + 1 {
		year, month, dayOfMonth := first.AddDate(0, 0, day).Date()
		want := date(year, int(month), dayOfMonth)
		if d, e := class.Date(day); d != want || e != api.OK {
			t.Fatalf("Date of %d = %v, %d, not %v", day, d, e, want)
		}
		if n, e := class.Day(want); n != day || e != api.OK {
			t.Fatalf("Day of %v = %d, %d, not %d", want, n, e, day)
		}
	}
}

func TestDayOfNoDate(t *testing.T) {
	for _, d := range []api.ClDate{
		{}, date(2000, 0, 1), date(2000, 13, 1), date(2000, -1, 1), date(2000, math.MaxInt, 1), date(2000, math.MinInt, 1),
		date(2000, 1, 0), date(2000, 1, -1), date(2000, 1, 32), date(2000, 2, 30), date(2001, 2, 29), date(2004, 2, 30),
		date(2100, 2, 29), date(1900, 2, 29), date(2200, 2, 29), date(-100, 2, 29), date(-1, 2, 29), date(2000, 3, 32),
		date(2000, 4, 31), date(2000, 5, 32), date(2000, 6, 31), date(2000, 7, 32), date(2000, 8, 32), date(2000, 9, 31),
		date(2000, 10, 32), date(2000, 11, 31), date(2000, 12, 32), date(2000, 1, math.MaxInt), date(2000, 1, math.MinInt),
		date(math.MaxInt, 2, 30), date(math.MinInt, 2, 30), date(5000, 13, 1), date(0, 0, 0),
	} {
		if n, e := class.Day(d); n != 0 || e != api.ErrForm {
			t.Errorf("Day of %v = %d, %d", d, n, e)
		}
	}
}

func TestDayOutOfRange(t *testing.T) {
	for _, d := range []api.ClDate{
		date(1999, 12, 31), date(1999, 1, 1), date(1996, 2, 29), date(1600, 2, 29), date(0, 2, 29), date(-4, 2, 29), date(-400, 2, 29),
		date(2109, 7, 9), date(2109, 12, 31), date(2110, 1, 1), date(2400, 2, 29),
		date(math.MaxInt, 1, 1), date(math.MinInt, 12, 31), date(math.MinInt, 2, 29), date(math.MaxInt, 12, 31),
	} {
		if n, e := class.Day(d); n != 0 || e != api.ErrRange {
			t.Errorf("Day of %v = %d, %d", d, n, e)
		}
	}
	if n, e := class.Day(date(2109, 7, 8)); n != api.MaxDay || e != api.OK {
		t.Errorf("Day of the last date = %d, %d", n, e)
	}
	for _, day := range []int{-1, api.MaxDay + 1, math.MinInt, math.MaxInt} {
		if d, e := class.Date(day); d != (api.ClDate{}) || e != api.ErrRange {
			t.Errorf("Date of %d = %v, %d", day, d, e)
		}
	}
}

func TestPlus(t *testing.T) {
	for _, c := range []struct{ day, years, months, want int }{
		{59, 1, 0, 424}, {30, 0, 1, 59}, {59, 4, 0, 1520}, {59, 0, 12, 424}, {59, 0, 48, 1520}, {59, 3, 12, 1520},
		{0, 0, 0, 0}, {api.MaxDay, 0, 0, api.MaxDay}, {365, 0, 2, 424}, {334, 0, 1, 364}, {335, 0, 1, 366}, {30, 1, 1, 424},
		{30, 0, 3, 120}, {0, 100, 0, 36525}, {0, 0, 1200, 36525}, {0, 100, 114, 39993}, {7, 100, 114, 40000},
		{59, 100, 0, 36525 + 31 + 27},
	} {
		if n, e := class.Plus(c.day, c.years, c.months); n != c.want || e != api.OK {
			t.Errorf("Plus of %d, %d, %d = %d, %d, not %d", c.day, c.years, c.months, n, e, c.want)
		}
	}
	for _, c := range []struct{ day, years, months int }{
		{-1, 0, 0}, {api.MaxDay + 1, 0, 0}, {0, -1, 0}, {0, 101, 0}, {0, 0, -1}, {0, 0, 1201}, {0, -1, 12}, {366, 2, -1},
		{8, 100, 114}, {39999, 0, 1}, {api.MaxDay, 0, 1}, {api.MaxDay, 1, 0}, {0, 100, 1200}, {api.MaxDay, 100, 1200},
		{math.MinInt, 0, 0}, {math.MaxInt, 0, 0}, {0, math.MaxInt, 0}, {0, math.MinInt, 0}, {0, 0, math.MaxInt}, {0, 0, math.MinInt},
		{math.MaxInt, math.MaxInt, math.MaxInt},
	} {
		if n, e := class.Plus(c.day, c.years, c.months); n != 0 || e != api.ErrRange {
			t.Errorf("Plus of %d, %d, %d = %d, %d", c.day, c.years, c.months, n, e)
		}
	}
}

// laterDay is a day plus years and months by the calendar of package time, or
// -1 if the sum is above MaxDay.
func laterDay(day, years, months int) int {
	first := time.Date(2000, 1, 1, 0, 0, 0, 0, time.UTC)
	d := first.AddDate(0, 0, day)
	// The day 0 of a month is the last one of the month before it.
	last := time.Date(d.Year()+years, d.Month()+time.Month(months)+1, 0, 0, 0, 0, 0, time.UTC)
	sum := last.AddDate(0, 0, min(d.Day(), last.Day())-last.Day())
	n := int(sum.Sub(first).Hours()) / 24
	if n > api.MaxDay {
		return -1
	}
	return n
}

func TestPlusOfTheCalendar(t *testing.T) {
	for day := 0; day <= api.MaxDay; day += 7 {
		for _, more := range [][2]int{{0, 0}, {1, 0}, {0, 1}, {0, 11}, {0, 12}, {4, 13}, {15, 0}, {18, 25}, {100, 3}, {2, 1200}} {
			want := laterDay(day, more[0], more[1])
			n, e := class.Plus(day, more[0], more[1])
			if want < 0 && (n != 0 || e != api.ErrRange) || want >= 0 && (n != want || e != api.OK) {
				t.Fatalf("Plus of %d, %v = %d, %d, not %d", day, more, n, e, want)
			}
		}
	}
}

func TestPlusIsNotBeforeAndNotLess(t *testing.T) {
	for _, more := range [][2]int{{0, 0}, {1, 0}, {0, 1}, {0, 2}, {3, 7}, {4, 0}, {100, 0}, {0, 1200}} {
		before := 0
		for day := range api.MaxDay + 1 {
			years, e := class.Plus(day, more[0], 0)
			if e != api.OK {
				break
			}
			sum, e := class.Plus(years, 0, more[1])
			if e != api.OK {
				break
			}
			if sum < day || sum < before {
				t.Fatalf("%d plus %v is %d, behind %d", day, more, sum, before)
			}
			before = sum
		}
	}
}

func TestAge(t *testing.T) {
	for _, c := range []struct{ born, day, want int }{
		{59, 423, 0}, {59, 424, 1}, {59, 1519, 3}, {59, 1520, 4}, {60, 424, 0}, {60, 425, 1}, {0, 365, 0}, {0, 366, 1},
		{0, 0, 0}, {api.MaxDay, api.MaxDay, 0}, {0, api.MaxDay, 109}, {188, api.MaxDay, 109}, {189, api.MaxDay, 109}, {190, api.MaxDay, 108},
		{0, 6574, 17}, {0, 6575, 18}, {365, 366, 0}, {39999, 40000, 0},
	} {
		if n, e := class.Age(c.born, c.day); n != c.want || e != api.OK {
			t.Errorf("Age of %d on %d = %d, %d, not %d", c.born, c.day, n, e, c.want)
		}
	}
	for _, c := range []struct {
		born, day int
		e         api.Errno
	}{
		{5, 4, api.ErrArg}, {api.MaxDay, 0, api.ErrArg}, {1, 0, api.ErrArg}, {-1, 0, api.ErrRange}, {0, -1, api.ErrRange}, {-1, -2, api.ErrRange},
		{api.MaxDay + 1, 0, api.ErrRange}, {0, api.MaxDay + 1, api.ErrRange}, {api.MaxDay + 1, api.MaxDay + 2, api.ErrRange},
		{math.MaxInt, math.MinInt, api.ErrRange}, {math.MinInt, math.MaxInt, api.ErrRange},
	} {
		if n, e := class.Age(c.born, c.day); n != 0 || e != c.e {
			t.Errorf("Age of %d on %d = %d, %d", c.born, c.day, n, e)
		}
	}
}

func TestAgesDoNotFall(t *testing.T) {
	for _, born := range []int{0, 30, 58, 59, 60, 365, 1520, 9999, 20000, 39634, 39635, 40000} {
		before := 0
		for day := born; day <= api.MaxDay; day++ {
			age, e := class.Age(born, day)
			if e != api.OK || age < before {
				t.Fatalf("Age of %d on %d = %d, %d, behind %d", born, day, age, e, before)
			}
			if age > before && age != before+1 {
				t.Fatalf("Age of %d on %d = %d, behind %d", born, day, age, before)
			}
			before = age
		}
	}
}

func TestAgeOnABirthday(t *testing.T) {
	for born := 0; born <= api.MaxDay; born += 11 {
		for age := 0; age <= api.MaxClYears; age++ {
			day, e := class.Plus(born, age, 0)
			if e != api.OK {
				break
			}
			if got, e := class.Age(born, day); got != age || e != api.OK {
				t.Fatalf("Age of %d on %d = %d, %d, not %d", born, day, got, e, age)
			}
			if age == 0 {
				continue
			}
			if got, e := class.Age(born, day-1); got != age-1 || e != api.OK {
				t.Fatalf("Age of %d on %d = %d, %d, not %d", born, day-1, got, e, age-1)
			}
		}
	}
}

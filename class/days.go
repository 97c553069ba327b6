package class

import (
	"bitepoint/api"
	"bitepoint/check"
)

// firstYear is the year of the day 0.
const firstYear = 2000

// monthDays is how many days each month has in a year that is no leap year.
var monthDays = [12]int{31, 28, 31, 30, 31, 30, 31, 31, 30, 31, 30, 31}

// Day returns the day of a date.
func Day(d api.ClDate) (int, api.Errno) {
	if !check.Within(1, 12, d.Month) || !check.Within(1, daysOfMonth(d.Year, d.Month), d.Day) {
		return 0, api.ErrForm
	}
	if d.Year < firstYear {
		return 0, api.ErrRange
	}
	day := dayOf(d)
	if day > api.MaxDay {
		return 0, api.ErrRange
	}
	return day, api.OK
}

// Date returns the date of a day.
func Date(day int) (api.ClDate, api.Errno) {
	if !check.Within(0, api.MaxDay, day) {
		return api.ClDate{}, api.ErrRange
	}
	return dateOf(day), api.OK
}

// Plus returns a day plus years and months.
func Plus(day, years, months int) (int, api.Errno) {
	if !check.Within(0, api.MaxDay, day) || !check.Within(0, api.MaxClYears, years) || !check.Within(0, api.MaxClMonths, months) {
		return 0, api.ErrRange
	}
	sum := plus(day, years, months)
	if sum > api.MaxDay {
		return 0, api.ErrRange
	}
	return sum, api.OK
}

// Age returns how old somebody is.
func Age(born, day int) (int, api.Errno) {
	if !check.Within(0, api.MaxDay, born, day) {
		return 0, api.ErrRange
	}
	if day < born {
		return 0, api.ErrArg
	}
	age := dateOf(day).Year - dateOf(born).Year
	if plus(born, age, 0) > day {
		age--
	}
	return age, api.OK
}

// plus returns a day plus years and months, or a day above MaxDay if the sum
// is above it.
func plus(day, years, months int) int {
	d := dateOf(day)
	month := d.Month - 1 + months
	d.Year += years + month/12
	d.Month = month%12 + 1
	d.Day = min(d.Day, daysOfMonth(d.Year, d.Month))
	return dayOf(d)
}

// dateOf returns the date of a day that is not below 0.
func dateOf(day int) api.ClDate {
	d := api.ClDate{Year: firstYear, Month: 1, Day: day + 1}
	for d.Day > daysOfYear(d.Year) {
		d.Day -= daysOfYear(d.Year)
		d.Year++
	}
	for d.Day > daysOfMonth(d.Year, d.Month) {
		d.Day -= daysOfMonth(d.Year, d.Month)
		d.Month++
	}
	return d
}

// dayOf returns the day of a date from the first year on. It stops counting
// years above MaxDay, as years may be any number: the day is above MaxDay then,
// too, but not that of the date.
func dayOf(d api.ClDate) int {
	day := d.Day - 1
	for year := firstYear; year < d.Year && day <= api.MaxDay; year++ {
		day += daysOfYear(year)
	}
	for month := 1; month < d.Month; month++ {
		day += daysOfMonth(d.Year, month)
	}
	return day
}

// daysOfYear returns how many days a year has.
func daysOfYear(year int) int {
	if isLeap(year) {
		return 366
	}
	return 365
}

// daysOfMonth returns how many days a month of a year has.
func daysOfMonth(year, month int) int {
	if month == 2 && isLeap(year) {
		return 29
	}
	return monthDays[month-1]
}

// isLeap reports whether a year is a leap year.
func isLeap(year int) bool {
	return year%4 == 0 && year%100 != 0 || year%400 == 0
}

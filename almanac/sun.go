package almanac

import "astragal/api"

// Solar returns the date of a day by the sun.
func Solar(r api.SolarRule, day int) (api.SolarDate, api.Errno) {
	if !validSolar(r) {
		return api.SolarDate{}, api.ErrArg
	}
	if !isDay(day) {
		return api.SolarDate{}, api.ErrRange
	}
	return solarDate(r, day), api.OK
}

// SolarDay returns the day of a date by the sun.
func SolarDay(r api.SolarRule, d api.SolarDate) (int, api.Errno) {
	if !validSolar(r) {
		return 0, api.ErrArg
	}
	if !among(d.Year, 0, api.MaxYear) {
		return 0, api.ErrRange
	}
	if !isMonth(d.Month) {
		return 0, api.ErrNone
	}
	first := solarYear(r, d.Year)
	lengths := solarMonths(r, d.Year)
	for _, length := range lengths[:d.Month-1] {
		first += length
	}
	return counted(first, lengths[d.Month-1], d.Day)
}

// solarDate returns the date of a day.
func solarDate(r api.SolarRule, day int) api.SolarDate {
	// The year is not later than if all years before it were short.
	year := day / 365
	for solarYear(r, year) > day {
		year--
	}
	day -= solarYear(r, year)
	month := 0
	lengths := solarMonths(r, year)
	for day >= lengths[month] {
		day -= lengths[month]
		month++
	}
	return api.SolarDate{Year: year, Month: month + 1, Day: day + 1}
}

// solarMonths returns how many days the months of a year have.
func solarMonths(r api.SolarRule, year int) [12]int {
	long := solarYear(r, year+1) - solarYear(r, year) - 365
	return [12]int{31, 28 + long, 31, 30, 31, 30, 31, 31, 30, 31, 30, 31}
}

// solarYear returns the first day of a year.
func solarYear(r api.SolarRule, year int) int {
	long := divided(year, r.Every) - divided(year, r.Every, r.But) + divided(year, r.Every, r.But, r.Unless)
	return 365*year + long
}

// divided returns how many of the years before one of them are divided by all of these numbers, of which 0 divides none.
func divided(before int, by ...int) int {
	all := multiple(by...)
	if all == 0 {
		return 0
	}
	// The year 0 is divided by all of them, too.
	return (before + all - 1) / all
}

// counted returns the day with a number, from 1 on, of a month that begins on some day and has so many days.
func counted(first, length, number int) (int, api.Errno) {
	if !among(number, 1, length) {
		return 0, api.ErrNone
	}
	day := first + number - 1
	if !isDay(day) {
		return 0, api.ErrRange
	}
	return day, api.OK
}

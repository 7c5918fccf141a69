package almanac

import (
	"slices"

	"astragal/api"
)

// spread is how things of one kind are divided among those of another one as evenly as whole numbers can be: so many of them to so many others.
type spread struct{ many, per, shift int }

// moonName is what a month of a year by the moon is called.
type moonName struct {
	month    int
	repeated bool
}

// Lunar returns the date of a day by the moon.
func Lunar(r api.LunarRule, day int) (api.LunarDate, api.Errno) {
	if !validLunar(r) {
		return api.LunarDate{}, api.ErrArg
	}
	if !isDay(day) {
		return api.LunarDate{}, api.ErrRange
	}
	return lunarDate(r, day), api.OK
}

// LunarDay returns the day of a date by the moon.
func LunarDay(r api.LunarRule, d api.LunarDate) (int, api.Errno) {
	if !validLunar(r) {
		return 0, api.ErrArg
	}
	if !among(d.Year, 0, api.MaxYear) {
		return 0, api.ErrRange
	}
	place := slices.Index(moonNames(r, d.Year), moonName{d.Month, d.Leap})
	if place < 0 {
		return 0, api.ErrNone
	}
	days := daysOf(r)
	month := monthsOf(r).begin(d.Year) + place
	return counted(days.begin(month), days.begin(month+1)-days.begin(month), d.Day)
}

// lunarDate returns the date of a day.
func lunarDate(r api.LunarRule, day int) api.LunarDate {
	days, months := daysOf(r), monthsOf(r)
	month := days.holder(day)
	year := months.holder(month)
	name := moonNames(r, year)[month-months.begin(year)]
	return api.LunarDate{Year: year, Month: name.month, Day: day - days.begin(month) + 1, Leap: name.repeated}
}

// moonNames returns what the months of a year are called, in their order.
func moonNames(r api.LunarRule, year int) []moonName {
	months := monthsOf(r)
	long := months.begin(year+1)-months.begin(year) == 13
	names := make([]moonName, 0, 13)
	for month := 1; isMonth(month); month++ {
		names = append(names, moonName{month, false})
		if long && month == r.Leap {
			names = append(names, moonName{month, true})
		}
	}
	return names
}

// daysOf returns how days are divided among months.
func daysOf(r api.LunarRule) spread { return spread{r.Days, r.Per, r.Phase} }

// monthsOf returns how months are divided among years.
func monthsOf(r api.LunarRule) spread { return spread{r.Months, r.Years, r.Shift} }

// begin returns the number of the first thing of the one with a number among those that have them.
func (s spread) begin(number int) int { return (s.many*number + s.shift) / s.per }

// holder returns the number of the one that has the thing with a number.
func (s spread) holder(thing int) int {
	// The last one that begins at most there: many * n + shift is below per * (thing + 1).
	return (s.per*(thing+1) - s.shift - 1) / s.many
}

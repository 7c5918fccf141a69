package almanac

import (
	"slices"

	"astragal/api"
	"astragal/whole"
)

// Sets of all months of a year, and of all days of a month, both counted from 1 on.
const (
	allMonths = 1<<13 - 1<<1
	allDays   = 1<<32 - 1<<1
)

// checkRules returns the error of an almanac and of rules.
func checkRules(a api.Almanac, rules []api.DayRule) api.Errno {
	if e := Check(a); e != api.OK {
		return e
	}
	return checkList(a, rules)
}

// checkPersons returns the error of an almanac and of the rules of persons.
func checkPersons(a api.Almanac, persons [][]api.DayRule) api.Errno {
	if e := Check(a); e != api.OK {
		return e
	}
	if len(persons) > api.MaxGuests {
		return api.ErrLong
	}
	for _, rules := range persons {
		if e := checkList(a, rules); e != api.OK {
			return e
		}
	}
	return api.OK
}

// checkList returns the error of rules for a valid almanac.
func checkList(a api.Almanac, rules []api.DayRule) api.Errno {
	if len(rules) > api.MaxDayRules {
		return api.ErrLong
	}
	invalid := func(r api.DayRule) bool { return !validRule(a, r) }
	if slices.ContainsFunc(rules, invalid) {
		return api.ErrForm
	}
	return api.OK
}

// validAlmanac reports whether an almanac is valid.
func validAlmanac(a api.Almanac) bool {
	return len(a.Cycles) <= api.MaxCycles && validCycles(a.Cycles) && validSolar(a.Solar) && validLunar(a.Lunar)
}

// validCycles reports whether all of some cycles are valid.
func validCycles(cycles []api.Cycle) bool {
	invalid := func(c api.Cycle) bool { return !validCycle(c) }
	return !slices.ContainsFunc(cycles, invalid)
}

// validCycle reports whether a cycle is valid.
func validCycle(c api.Cycle) bool {
	return among(c.Length, 1, api.MaxCycle) && among(c.Start, 0, c.Length-1)
}

// validSolar reports whether a rule for years is valid.
func validSolar(r api.SolarRule) bool {
	return among(r.Every, 0, api.MaxMean) && among(r.But, 0, api.MaxMean) && among(r.Unless, 0, api.MaxMean)
}

// validLunar reports whether a rule for months is valid.
func validLunar(r api.LunarRule) bool {
	return among(r.Per, 1, api.MaxMean) && among(r.Days, 27*r.Per, 31*r.Per) && among(r.Phase, 0, r.Per-1) &&
		among(r.Years, 1, api.MaxMean) && among(r.Months, 12*r.Years, 13*r.Years) && among(r.Shift, 0, r.Years-1) &&
		isMonth(r.Leap)
}

// validRule reports whether a rule for days is valid for an almanac.
func validRule(a api.Almanac, r api.DayRule) bool {
	invalid := func(t api.DayTest) bool { return !validTest(a, t) }
	return len(r.When) <= api.MaxDayTests && !slices.ContainsFunc(r.When, invalid)
}

// validTest reports whether a test is valid for an almanac.
func validTest(a api.Almanac, t api.DayTest) bool {
	// A test that has no more than its kind uses is equal to what is used of it.
	used := api.DayTest{Kind: t.Kind}
	switch t.Kind {
	case api.DayCycle:
		used.Which, used.Set = t.Which, t.Set
		return t == used && among(t.Which, 0, len(a.Cycles)-1) && t.Set>>a.Cycles[t.Which].Length == 0
	case api.DaySolarMonth, api.DayLunarMonth:
		used.Set = t.Set & allMonths
		return t == used
	case api.DaySolarDay, api.DayLunarDay:
		used.Set = t.Set & allDays
		return t == used
	case api.DayLeap:
		return t == used
	case api.DayBetween:
		used.From, used.To = t.From, t.To
		return t == used && isDay(t.From) && isDay(t.To)
	}
	return false
}

// isMonth reports whether a year has months with a number.
func isMonth(n int) bool { return among(n, 1, 12) }

// isDay reports whether a number is a day.
func isDay(n int) bool { return among(n, 0, api.MaxDay) }

// isSpan reports whether the days from one to another one can be looked through.
func isSpan(from, to int) bool { return isDay(from) && isDay(to) && among(to-from, 0, api.MaxSpan) }

// among reports whether a number is from low to high.
func among(n, low, high int) bool { return !whole.Outside(low, high)(n) }

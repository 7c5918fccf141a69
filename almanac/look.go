package almanac

import (
	"iter"
	"slices"

	"astragal/api"
)

// look looks at a day in an almanac.
type look struct {
	api.Almanac
	day   int
	tests map[api.DayTestKind]func(api.DayTest) bool // by kind: whether a test holds for the day
}

// lookAt returns what looks at a day.
func lookAt(a api.Almanac, day int) look {
	l := look{Almanac: a, day: day}
	l.tests = l.byKind()
	return l
}

// byKind returns, for each kind, what reports whether a test holds for the day.
func (l look) byKind() map[api.DayTestKind]func(api.DayTest) bool {
	sun, moon := solarDate(l.Solar, l.day), lunarDate(l.Lunar, l.day)
	return map[api.DayTestKind]func(api.DayTest) bool{
		api.DayCycle:      func(t api.DayTest) bool { return has(t.Set, position(l.Cycles[t.Which], l.day)) },
		api.DaySolarMonth: func(t api.DayTest) bool { return has(t.Set, sun.Month) },
		api.DaySolarDay:   func(t api.DayTest) bool { return has(t.Set, sun.Day) },
		api.DayLunarMonth: func(t api.DayTest) bool { return has(t.Set, moon.Month) },
		api.DayLunarDay:   func(t api.DayTest) bool { return has(t.Set, moon.Day) },
		api.DayLeap:       func(api.DayTest) bool { return moon.Leap },
		api.DayBetween:    func(t api.DayTest) bool { return among(l.day, t.From, t.To) },
	}
}

// allows reports whether the day is allowed by rules.
func (l look) allows(rules []api.DayRule) bool {
	number := l.deciding(rules)
	return number >= 0 && rules[number].Allow
}

// deciding returns the number of the last rule that applies to the day, or -1.
func (l look) deciding(rules []api.DayRule) int {
	fails := func(t api.DayTest) bool { return !l.tests[t.Kind](t) }
	for number, rule := range slices.Backward(rules) {
		if !slices.ContainsFunc(rule.When, fails) {
			return number
		}
	}
	return -1
}

// allowed yields the days from one to another one that all of these lists of rules allow.
func allowed(a api.Almanac, from, to int, lists ...[]api.DayRule) iter.Seq[int] {
	return func(yield func(int) bool) {
		for day := from; day <= to; day++ {
			l := lookAt(a, day)
			forbids := func(rules []api.DayRule) bool { return !l.allows(rules) }
			if !slices.ContainsFunc(lists, forbids) && !yield(day) {
				return
			}
		}
	}
}

// earliest returns the first one of days, or ErrNone if there is none.
func earliest(days iter.Seq[int]) (int, api.Errno) {
	for day := range days {
		return day, api.OK
	}
	return 0, api.ErrNone
}

// has reports whether a number is in a set.
func has(set uint64, n int) bool { return set>>n&1 == 1 }

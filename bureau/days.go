package bureau

import (
	"slices"

	"astragal/almanac"
	"astragal/api"
	"astragal/whole"
)

// calendar is an almanac, with rules for days, and the day that it is.
type calendar struct {
	api.Almanac
	rules []api.DayRule
	today int
}

// day says which day it is.
func (b *Bureau) day(w []word) (string, api.Errno) {
	day := w[0].number
	switch {
	case whole.Outside(0, api.MaxDay)(day):
		return "", api.ErrRange
	case day < b.days.today:
		return "", api.ErrState
	}
	b.days.today = day
	return answer(api.OK, done)
}

// cycle adds a cycle.
func (b *Bureau) cycle(w []word) (string, api.Errno) {
	a := b.days.Almanac
	a.Cycles = append(slices.Clip(a.Cycles), api.Cycle{Length: w[0].number, Start: w[1].number})
	return b.change(a, number(len(a.Cycles)-1))
}

// moon says when months begin by the moon.
func (b *Bureau) moon(w []word) (string, api.Errno) {
	a := b.days.Almanac
	a.Lunar = api.LunarRule{
		Days:   w[0].number,
		Per:    w[1].number,
		Phase:  w[2].number,
		Months: w[3].number,
		Years:  w[4].number,
		Shift:  w[5].number,
		Leap:   w[6].number,
	}
	return b.change(a, done)
}

// change makes this the almanac, and answers so.
func (b *Bureau) change(a api.Almanac, text string) (string, api.Errno) {
	if e := almanac.Check(a); e != api.OK {
		return "", e
	}
	b.days.Almanac = a
	return answer(api.OK, text)
}

// ruling returns what adds a rule that allows days, or forbids them.
func ruling(allow bool) deed {
	return func(b *Bureau, w []word) (string, api.Errno) {
		c := b.days
		c.rules = append(slices.Clip(c.rules), api.DayRule{When: w[0].days, Allow: allow})
		if _, e := c.allowed(); e != api.OK {
			return "", e
		}
		b.days = c
		return answer(api.OK, number(len(c.rules)-1))
	}
}

// allowed reports whether the day is allowed.
func (c calendar) allowed() (bool, api.Errno) {
	is, _, e := almanac.Allowed(c.Almanac, c.rules, c.today)
	return is, e
}

// date tells the date by the sun and by the moon.
func (b *Bureau) date([]word) (string, api.Errno) {
	sun, e := almanac.Solar(b.days.Solar, b.days.today)
	if e != api.OK {
		return "", e
	}
	moon, e := almanac.Lunar(b.days.Lunar, b.days.today)
	month := number(moon.Month)
	if moon.Leap {
		month += "*"
	}
	return answer(e, numbers("-", sun.Year, sun.Month, sun.Day), join("-", number(moon.Year), month, number(moon.Day)))
}

// next tells the first of the next days that is allowed.
func (b *Bureau) next(w []word) (string, api.Errno) {
	day, e := almanac.Next(b.days.Almanac, b.days.rules, b.days.today, b.days.today+w[0].number)
	return answer(e, number(day))
}

package almanac_test

import (
	"cmp"
	"math"
	"testing"
	"time"

	"astragal/almanac"
	"astragal/api"
)

// skips reports whether a walk passes over a day: that by the first rule looks at all days up to a week behind the last one, the others at each eleventh day.
func skips(number, day int) bool {
	return (number > 0 || day > api.MaxDay+7) && day%11 != 0
}

// P8.2, P8.8: all days and all dates, by all kinds of rules, there and back.
func TestSolar(t *testing.T) {
	for number, r := range solarRules() {
		for day, want := range walkSun(r) {
			if skips(number, day) {
				continue
			}
			if n, e := almanac.SolarDay(r, want); day <= api.MaxDay && (n != day || e != api.OK) || day > api.MaxDay && (n != 0 || e != api.ErrRange) {
				t.Fatal(r, want, day, n, e)
			}
			if day > api.MaxDay {
				continue
			}
			if d, e := almanac.Solar(r, day); d != want || e != api.OK {
				t.Fatal(r, day, d, e, want)
			}
		}
	}
}

// P8.2: the usual rule against another calendar.
func TestSolarAsUsual(t *testing.T) {
	first := time.Date(0, 1, 1, 0, 0, 0, 0, time.UTC)
	for day := 0; day <= api.MaxDay; day += 13 {
		x := first.AddDate(0, 0, day)
		if d := ok(almanac.Solar(usual(), day)); d != (api.SolarDate{Year: x.Year(), Month: int(x.Month()), Day: x.Day()}) {
			t.Fatal(day, d, x)
		}
	}
}

// P8.2: which years are long, by rules with a part left out, too.
func TestLongYears(t *testing.T) {
	for _, c := range []struct {
		r    api.SolarRule
		long []int // of the years 0 to 12
	}{
		{api.SolarRule{}, nil},
		{api.SolarRule{But: 2, Unless: 4}, nil},
		{api.SolarRule{Every: 5}, []int{0, 5, 10}},
		{api.SolarRule{Every: 5, Unless: 2}, []int{0, 5, 10}},
		{api.SolarRule{Every: 3, But: 6}, []int{3, 9}},
		{api.SolarRule{Every: 3, But: 6, Unless: 4}, []int{0, 3, 9, 12}},
		{api.SolarRule{Every: 3, But: 2, Unless: 9}, []int{0, 3, 9}},
		{api.SolarRule{Every: 100000}, []int{0}},
		{api.SolarRule{Every: 6, But: 100000}, []int{6, 12}},
	} {
		var long []int
		for year := range 13 {
			if n, e := almanac.SolarDay(c.r, api.SolarDate{Year: year, Month: 2, Day: 29}); e == api.OK {
				long = append(long, year)
			} else if n != 0 || e != api.ErrNone {
				t.Error(c, year, n, e)
			}
		}
		if len(long) != len(c.long) {
			t.Error(c, long)
		}
		for i := range min(len(long), len(c.long)) {
			if long[i] != c.long[i] {
				t.Error(c, long)
			}
		}
	}
}

// P8.2: each error, and the one that is named first.
func TestSolarErrors(t *testing.T) {
	for _, r := range badSolar() {
		for _, day := range []int{0, -1, api.MaxDay + 1} {
			if d, e := almanac.Solar(r, day); d != (api.SolarDate{}) || e != api.ErrArg {
				t.Error(r, day, d, e)
			}
		}
		for _, d := range []api.SolarDate{{Year: 1, Month: 1, Day: 1}, {Year: -1, Month: 1, Day: 1}, {Year: 1}, {Year: 4000, Month: 1, Day: 1}} {
			if n, e := almanac.SolarDay(r, d); n != 0 || e != api.ErrArg {
				t.Error(r, d, n, e)
			}
		}
	}
	for _, day := range append(extremes(), api.MaxDay+1) {
		if d, e := almanac.Solar(usual(), day); d != (api.SolarDate{}) || e != api.ErrRange {
			t.Error(day, d, e)
		}
	}
	for _, year := range append(extremes(), 4001) {
		for _, d := range []api.SolarDate{{Year: year}, {Year: year, Month: 1, Day: 1}, {Year: year, Month: 13, Day: 1}} {
			if n, e := almanac.SolarDay(usual(), d); n != 0 || e != api.ErrRange {
				t.Error(d, n, e)
			}
		}
	}
	// There is no such date in a year far away either: this comes before the day that would be too great.
	for _, year := range []int{0, 1, 1900, 2737, 2738, 3999, 4000} {
		for _, n := range append(extremes(), 0, 13) {
			if day, e := almanac.SolarDay(usual(), api.SolarDate{Year: year, Month: n, Day: 1}); day != 0 || e != api.ErrNone {
				t.Error(year, n, day, e)
			}
		}
		for month, length := range map[int]int{1: 31, 3: 31, 4: 30, 5: 31, 6: 30, 7: 31, 8: 31, 9: 30, 10: 31, 11: 30, 12: 31} {
			for _, n := range append(extremes(), 0, length+1) {
				if day, e := almanac.SolarDay(usual(), api.SolarDate{Year: year, Month: month, Day: n}); day != 0 || e != api.ErrNone {
					t.Error(year, month, n, day, e)
				}
			}
		}
	}
	for year, e := range map[int]api.Errno{0: api.OK, 1: api.ErrNone, 100: api.ErrNone, 400: api.OK, 3999: api.ErrNone, 4000: api.ErrRange} {
		if _, f := almanac.SolarDay(usual(), api.SolarDate{Year: year, Month: 2, Day: 29}); f != e {
			t.Error(year, e, f)
		}
	}
	last := ok(almanac.Solar(usual(), api.MaxDay))
	if n, e := almanac.SolarDay(usual(), last); n != api.MaxDay || e != api.OK {
		t.Error(last, n, e)
	}
	last.Day++
	if n, e := almanac.SolarDay(usual(), last); n != 0 || e != api.ErrRange {
		t.Error(last, n, e)
	}
}

// P8.3, P8.8: all days and all dates, by all kinds of rules, there and back.
func TestLunar(t *testing.T) {
	repeated, twelve := 0, 0
	for number, r := range lunarRules() {
		for day, want := range walkMoon(r) {
			if skips(number, day) {
				continue
			}
			if n, e := almanac.LunarDay(r, want); day <= api.MaxDay && (n != day || e != api.OK) || day > api.MaxDay && (n != 0 || e != api.ErrRange) {
				t.Fatal(r, want, day, n, e)
			}
			if day > api.MaxDay {
				continue
			}
			if d, e := almanac.Lunar(r, day); d != want || e != api.OK {
				t.Fatal(r, day, d, e, want)
			}
			if want.Leap {
				repeated++
			}
			if want.Month == 12 {
				twelve++
			}
		}
	}
	if repeated < 20000 || twelve < 20000 {
		t.Error(repeated, twelve)
	}
}

// P8.3: the beginnings of months and years are rounded down, and shifted.
func TestMonthsAndYears(t *testing.T) {
	for _, r := range lunarRules() {
		for month := range 40 {
			day := (r.Days*month + r.Phase) / r.Per
			if d := ok(almanac.Lunar(r, day)); d.Day != 1 {
				t.Error(r, month, day, d)
			}
			if d := ok(almanac.Lunar(r, max(day-1, 0))); d.Day < 27 && month > 0 {
				t.Error(r, month, day, d)
			}
		}
		for year := range 30 {
			month := (r.Months*year + r.Shift) / r.Years
			day := (r.Days*month + r.Phase) / r.Per
			if d := ok(almanac.Lunar(r, day)); d != (api.LunarDate{Year: year, Month: 1, Day: 1}) {
				t.Error(r, year, day, d)
			}
		}
	}
}

// P8.3: each error, and the one that is named first.
func TestLunarErrors(t *testing.T) {
	for _, r := range badLunar() {
		for _, day := range []int{0, -1, api.MaxDay + 1} {
			if d, e := almanac.Lunar(r, day); d != (api.LunarDate{}) || e != api.ErrArg {
				t.Error(r, day, d, e)
			}
		}
		for _, d := range []api.LunarDate{{Year: 1, Month: 1, Day: 1}, {Year: -1, Month: 1, Day: 1}, {Year: 1}, {Year: 4000, Month: 1, Day: 1}} {
			if n, e := almanac.LunarDay(r, d); n != 0 || e != api.ErrArg {
				t.Error(r, d, n, e)
			}
		}
	}
	for _, day := range append(extremes(), api.MaxDay+1) {
		if d, e := almanac.Lunar(moons(), day); d != (api.LunarDate{}) || e != api.ErrRange {
			t.Error(day, d, e)
		}
	}
	for _, year := range append(extremes(), 4001) {
		for _, d := range []api.LunarDate{{Year: year}, {Year: year, Month: 1, Day: 1}, {Year: year, Month: 13, Day: 1}, {Year: year, Month: 4, Day: 1, Leap: true}} {
			if n, e := almanac.LunarDay(moons(), d); n != 0 || e != api.ErrRange {
				t.Error(d, n, e)
			}
		}
	}
	for _, year := range []int{0, 2, 4000} {
		for _, n := range append(extremes(), 0, 13) {
			for _, leap := range []bool{false, true} {
				if day, e := almanac.LunarDay(moons(), api.LunarDate{Year: year, Month: n, Day: 1, Leap: leap}); day != 0 || e != api.ErrNone {
					t.Error(year, n, day, e)
				}
			}
		}
		for _, n := range append(extremes(), 0, 31, 32) {
			if day, e := almanac.LunarDay(moons(), api.LunarDate{Year: year, Month: 5, Day: n}); day != 0 || e != api.ErrNone {
				t.Error(year, n, day, e)
			}
		}
	}
}

// P8.3: only the month Leap of a year of 13 months is there twice.
func TestRepeated(t *testing.T) {
	for leap := 1; leap <= 12; leap++ {
		r := moons()
		r.Leap = leap
		for year := range 38 {
			long := (235*(year+1))/19-(235*year)/19 == 13
			for month := 1; month <= 12; month++ {
				plain, e := almanac.LunarDay(r, api.LunarDate{Year: year, Month: month, Day: 1})
				again, f := almanac.LunarDay(r, api.LunarDate{Year: year, Month: month, Day: 1, Leap: true})
				if e != api.OK || f != api.OK && (f != api.ErrNone || again != 0) || (f == api.OK) != (long && month == leap) {
					t.Error(r, year, month, plain, e, again, f)
				}
				if f == api.OK && again-plain != 29 && again-plain != 30 {
					t.Error(r, year, month, plain, again)
				}
			}
		}
	}
	// In a year far away the date that there is not comes first, too.
	far := map[api.Errno]int{}
	for year := 3900; year <= 4000; year++ {
		_, e := almanac.LunarDay(moons(), api.LunarDate{Year: year, Month: 4, Day: 1, Leap: true})
		far[e]++
	}
	if far[api.ErrNone] < 60 || far[api.ErrRange] < 30 || len(far) != 2 {
		t.Error(far)
	}
}

// P8.8: later days have later dates.
func TestLater(t *testing.T) {
	solar := func(a, b api.SolarDate) int {
		return cmp.Or(cmp.Compare(a.Year, b.Year), cmp.Compare(a.Month, b.Month), cmp.Compare(a.Day, b.Day))
	}
	lunar := func(a, b api.LunarDate) int {
		leap := 0
		if a.Leap != b.Leap {
			leap = 1
			if b.Leap {
				leap = -1
			}
		}
		return cmp.Or(cmp.Compare(a.Year, b.Year), cmp.Compare(a.Month, b.Month), leap, cmp.Compare(a.Day, b.Day))
	}
	next, years, months := noise(88), solarRules(), lunarRules()
	for range 20000 {
		a, b := next(api.MaxDay), next(api.MaxDay)
		if next(1) == 0 {
			b = min(a+1+next(60), api.MaxDay)
		}
		r, s := years[next(len(years)-1)], months[next(len(months)-1)]
		if solar(ok(almanac.Solar(r, a)), ok(almanac.Solar(r, b))) != cmp.Compare(a, b) {
			t.Fatal(r, a, b)
		}
		if lunar(ok(almanac.Lunar(s, a)), ok(almanac.Lunar(s, b))) != cmp.Compare(a, b) {
			t.Fatal(s, a, b)
		}
	}
}

// The second example of the chapter.
func TestExampleOfTheSun(t *testing.T) {
	for day, want := range map[int]api.SolarDate{0: {Year: 0, Month: 1, Day: 1}, 59: {Year: 0, Month: 2, Day: 29}, 60: {Year: 0, Month: 3, Day: 1}} {
		if d, e := almanac.Solar(usual(), day); d != want || e != api.OK {
			t.Error(day, d, e)
		}
	}
	if n, e := almanac.SolarDay(usual(), api.SolarDate{Year: 100, Month: 2, Day: 29}); n != 0 || e != api.ErrNone {
		t.Error(n, e)
	}
}

// The third example of the chapter.
func TestExampleOfTheMoon(t *testing.T) {
	begin := func(month int) int { return int(math.Floor(29.5 * float64(month))) }
	for month, want := range map[int]api.LunarDate{0: {Year: 0, Month: 1}, 1: {Year: 0, Month: 2}, 2: {Year: 0, Month: 3}, 12: {Year: 1, Month: 1}, 24: {Year: 2, Month: 1}, 27: {Year: 2, Month: 4}, 28: {Year: 2, Month: 4, Leap: true}, 29: {Year: 2, Month: 5}, 36: {Year: 2, Month: 12}, 37: {Year: 3, Month: 1}} {
		want.Day = 1
		if d, e := almanac.Lunar(moons(), begin(month)); d != want || e != api.OK {
			t.Error(month, d, e)
		}
		if n, e := almanac.LunarDay(moons(), want); n != begin(month) || e != api.OK {
			t.Error(month, n, e)
		}
	}
}

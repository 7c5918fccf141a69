package almanac_test

import (
	"iter"
	"math"
	"reflect"
	"slices"

	"astragal/almanac"
	"astragal/api"
)

// usual is a rule for years, and moons one for months.
func usual() api.SolarRule { return api.SolarRule{Every: 4, But: 100, Unless: 400} }

func moons() api.LunarRule {
	return api.LunarRule{Days: 59, Per: 2, Months: 235, Years: 19, Leap: 4}
}

// example returns the almanac of the chapter's examples.
func example() api.Almanac {
	return api.Almanac{Cycles: cycles(7), Solar: usual(), Lunar: moons()}
}

// cycles returns cycles that begin with the day 0, by their lengths.
func cycles(lengths ...int) []api.Cycle {
	var l []api.Cycle
	for _, n := range lengths {
		l = append(l, api.Cycle{Length: n})
	}
	return l
}

// allow and forbid return the rule that allows, or forbids, the days for which tests hold.
func allow(tests ...api.DayTest) api.DayRule  { return api.DayRule{When: tests, Allow: true} }
func forbid(tests ...api.DayTest) api.DayRule { return api.DayRule{When: tests} }

// in returns the test of a kind with a set of numbers.
func in(kind api.DayTestKind, numbers ...int) api.DayTest {
	return api.DayTest{Kind: kind, Set: set(numbers...)}
}

// between returns the test of whether a day is from one to another one.
func between(from, to int) api.DayTest {
	return api.DayTest{Kind: api.DayBetween, From: from, To: to}
}

// set returns a set of numbers.
func set(numbers ...int) uint64 {
	s := uint64(0)
	for _, n := range numbers {
		s |= 1 << n
	}
	return s
}

// second returns the rules of the chapter's example in their second order.
func second() []api.DayRule {
	return []api.DayRule{allow(in(api.DaySolarMonth, 1)), forbid(in(api.DayCycle, 5, 6))}
}

// ok returns the result of a call that has no error.
func ok[T any](x T, e api.Errno) T {
	if e != api.OK {
		panic(e)
	}
	return x
}

// noise returns numbers from 0 to most that follow no simple rule, and the same ones for the same seed.
func noise(seed uint64) func(most int) int {
	return func(most int) int {
		seed = seed*6364136223846793005 + 1442695040888963407
		return int((seed >> 16) % uint64(most+1))
	}
}

// extremes are numbers that are too small or too great for everything.
func extremes() []int {
	return []int{math.MinInt, math.MinInt + 1, math.MinInt32, -1000001, -1, 3100001, 1 << 32, 1 << 62, math.MaxInt - 1, math.MaxInt}
}

// zero reports whether all of these are zero values, or empty lists.
func zero(l ...any) bool {
	for _, x := range l {
		if v := reflect.ValueOf(x); !v.IsZero() && (v.Kind() != reflect.Slice || v.Len() > 0) {
			return false
		}
	}
	return true
}

// isLong reports whether a year by the sun is long, in the document's words.
func isLong(r api.SolarRule, year int) bool {
	divides := func(n int) bool { return n != 0 && year%n == 0 }
	return divides(r.Every) && (r.But == 0 || !divides(r.But) || divides(r.Unless))
}

// walkSun yields all days up to the end of the year 4000 with their dates, one day after another.
func walkSun(r api.SolarRule) iter.Seq2[int, api.SolarDate] {
	return func(yield func(int, api.SolarDate) bool) {
		day := 0
		for year := range 4001 {
			for i, length := range []int{31, 28, 31, 30, 31, 30, 31, 31, 30, 31, 30, 31} {
				if i == 1 && isLong(r, year) {
					length = 29
				}
				for d := range length {
					if !yield(day, api.SolarDate{Year: year, Month: i + 1, Day: d + 1}) {
						return
					}
					day++
				}
			}
		}
	}
}

// walkMoon yields all days up to the end of the year 4000 with their dates, one day after another.
func walkMoon(r api.LunarRule) iter.Seq2[int, api.LunarDate] {
	return func(yield func(int, api.LunarDate) bool) {
		month, day := 0, 0
		for year := range 4001 {
			after := (r.Months*(year+1) + r.Shift) / r.Years
			long := after-month == 13
			d := api.LunarDate{Year: year, Month: 1}
			for ; month < after; month++ {
				for d.Day = 1; day < (r.Days*(month+1)+r.Phase)/r.Per; d.Day++ {
					if !yield(day, d) {
						return
					}
					day++
				}
				if d.Leap = long && d.Month == r.Leap && !d.Leap; !d.Leap {
					d.Month++
				}
			}
		}
	}
}

// solarRules are rules for years of all kinds.
func solarRules() []api.SolarRule {
	return []api.SolarRule{usual(), {}, {Every: 1}, {Every: 1, But: 1}, {Every: 1, But: 1, Unless: 1}, {Every: 4}, {Every: 4, Unless: 3}, {Every: 2, But: 3}, {Every: 2, But: 3, Unless: 4}, {Every: 6, But: 4, Unless: 10}, {But: 1, Unless: 1}, {Every: 3, But: 0, Unless: 2}, {Every: 100000, But: 99999, Unless: 99998}, {Every: 99991, But: 99989, Unless: 99971}, {Every: 1, But: 2, Unless: 100000}}
}

// lunarRules are rules for months of all kinds.
func lunarRules() []api.LunarRule {
	l := []api.LunarRule{moons(),
		{Days: 27, Per: 1, Months: 12, Years: 1, Leap: 1},
		{Days: 31, Per: 1, Months: 13, Years: 1, Leap: 12},
		{Days: 2700000, Per: 100000, Phase: 99999, Months: 1300000, Years: 100000, Shift: 99999, Leap: 7},
		{Days: 3100000, Per: 100000, Months: 1200000, Years: 100000, Leap: 7},
		{Days: 2953059, Per: 100000, Phase: 50000, Months: 1236827, Years: 100000, Shift: 99999, Leap: 12},
		{Days: 2799999, Per: 99999, Phase: 99998, Months: 1200001, Years: 100000, Shift: 99999, Leap: 1},
		{Days: 7, Per: 1, Leap: 1},
	}
	l[7] = moons()
	l[7].Phase, l[7].Shift, l[7].Leap = 1, 18, 12
	next := noise(83)
	for range 6 {
		l = append(l, noiseLunar(next))
	}
	return l
}

// noiseLunar returns a valid rule for months that follows no rule.
func noiseLunar(next func(int) int) api.LunarRule {
	per, years := 1+next([]int{5, 99, 99999}[next(2)]), 1+next([]int{5, 99, 99999}[next(2)])
	return api.LunarRule{Days: 27*per + next(4*per), Per: per, Phase: next(per - 1), Months: 12*years + next(years), Years: years, Shift: next(years - 1), Leap: 1 + next(11)}
}

// noiseCycle returns a valid cycle that follows no rule.
func noiseCycle(next func(int) int, longest int) api.Cycle {
	n := 1 + next(longest-1)
	return api.Cycle{Length: n, Start: next(n - 1)}
}

// noiseAlmanac returns a valid almanac that follows no rule.
func noiseAlmanac(next func(int) int) api.Almanac {
	a := api.Almanac{Solar: api.SolarRule{Every: next(5), But: next(9), Unless: next(13)}, Lunar: noiseLunar(next)}
	for range next(3) {
		a.Cycles = append(a.Cycles, noiseCycle(next, []int{7, 64}[next(1)]))
	}
	return a
}

// noiseRules returns at most so many valid rules that follow no rule, for days not far from some day.
func noiseRules(next func(int) int, a api.Almanac, most, near int) []api.DayRule {
	var l []api.DayRule
	for range next(most) {
		r := api.DayRule{Allow: next(2) > 0}
		for range next(2) {
			r.When = append(r.When, noiseTest(next, a, near))
		}
		l = append(l, r)
	}
	return l
}

// noiseTest returns a valid test that follows no rule.
func noiseTest(next func(int) int, a api.Almanac, near int) api.DayTest {
	some := func(low, high int) uint64 {
		s := uint64(0)
		for n := low; n <= high; n++ {
			s |= uint64(next(1)) << n
		}
		return s
	}
	switch kind := api.DayTestKind(1 + next(6)); {
	case kind == api.DayCycle && len(a.Cycles) > 0:
		which := next(len(a.Cycles) - 1)
		return api.DayTest{Kind: kind, Which: which, Set: some(0, a.Cycles[which].Length-1)}
	case kind == api.DaySolarMonth || kind == api.DayLunarMonth:
		return api.DayTest{Kind: kind, Set: some(1, 12)}
	case kind == api.DaySolarDay || kind == api.DayLunarDay:
		return api.DayTest{Kind: kind, Set: some(1, 31)}
	case kind == api.DayLeap:
		return api.DayTest{Kind: kind}
	}
	return between(max(near-next(30), 0), min(near+next(60), api.MaxDay))
}

// holds reports whether a test holds for a day, in the document's words.
func holds(a api.Almanac, t api.DayTest, day int) bool {
	switch t.Kind {
	case api.DayCycle:
		return t.Set&set(ok(almanac.Position(a.Cycles[t.Which], day))) != 0
	case api.DaySolarMonth:
		return t.Set&set(ok(almanac.Solar(a.Solar, day)).Month) != 0
	case api.DaySolarDay:
		return t.Set&set(ok(almanac.Solar(a.Solar, day)).Day) != 0
	case api.DayLunarMonth:
		return t.Set&set(ok(almanac.Lunar(a.Lunar, day)).Month) != 0
	case api.DayLunarDay:
		return t.Set&set(ok(almanac.Lunar(a.Lunar, day)).Day) != 0
	case api.DayLeap:
		return ok(almanac.Lunar(a.Lunar, day)).Leap
	}
	return t.From <= day && day <= t.To
}

// decided returns whether rules allow a day, and the last one that applies or -1, in the document's words.
func decided(a api.Almanac, rules []api.DayRule, day int) (bool, int) {
	allows, last := false, -1
	for number, r := range rules {
		applies := true
		for _, t := range r.When {
			applies = applies && holds(a, t, day)
		}
		if applies {
			allows, last = r.Allow, number
		}
	}
	return allows, last
}

// daysOf returns the days from one to another one that rules allow, in the document's words.
func daysOf(a api.Almanac, rules []api.DayRule, from, to int) []int {
	var l []int
	for day := from; day <= to; day++ {
		if allows, _ := decided(a, rules, day); allows {
			l = append(l, day)
		}
	}
	return l
}

// planOf returns the first plan that is found if the days are tried in their order, nil if there is none.
func planOf(days []int, gap [2]int, turns int) []int {
	dead := map[[2]int]bool{}
	var try func(plan []int) []int
	try = func(plan []int) []int {
		if len(plan) == turns {
			return plan
		}
		for _, day := range days {
			if n := len(plan); n > 0 && (day < plan[n-1]+gap[0] || day > plan[n-1]+gap[1]) || dead[[2]int{n, day}] {
				continue
			}
			if whole := try(append(slices.Clone(plan), day)); whole != nil {
				return whole
			}
			dead[[2]int{len(plan), day}] = true
		}
		return nil
	}
	return try(nil)
}

// copied returns an almanac that shares no memory with another one.
func copied(a api.Almanac) api.Almanac {
	a.Cycles = slices.Clone(a.Cycles)
	return a
}

// copiedRules returns rules that share no memory with other ones.
func copiedRules(l []api.DayRule) []api.DayRule {
	l = slices.Clone(l)
	for i, r := range l {
		l[i].When = slices.Clone(r.When)
	}
	return l
}

// badAlmanacs are almanacs that are invalid, each for one reason.
func badAlmanacs() []api.Almanac {
	var l []api.Almanac
	broken := func(change func(a *api.Almanac)) {
		a := example()
		change(&a)
		l = append(l, a)
	}
	for _, c := range badCycles() {
		broken(func(a *api.Almanac) { a.Cycles[0] = c })
		broken(func(a *api.Almanac) { a.Cycles = append(slices.Repeat(cycles(3), 7), c) })
	}
	for _, r := range badSolar() {
		broken(func(a *api.Almanac) { a.Solar = r })
	}
	for _, r := range badLunar() {
		broken(func(a *api.Almanac) { a.Lunar = r })
	}
	broken(func(a *api.Almanac) { a.Cycles = slices.Repeat(cycles(7), 9) })
	broken(func(a *api.Almanac) { *a = api.Almanac{} })
	return l
}

// badCycles are cycles that are invalid.
func badCycles() []api.Cycle {
	l := []api.Cycle{{}, {Length: 65}, {Length: 0, Start: -1}, {Length: 1, Start: 1}, {Length: 64, Start: 64}, {Length: 7, Start: 8}}
	for _, n := range extremes() {
		l = append(l, api.Cycle{Length: n}, api.Cycle{Length: 7, Start: n}, api.Cycle{Length: n, Start: n})
	}
	return l
}

// badSolar are rules for years that are invalid.
func badSolar() []api.SolarRule {
	var l []api.SolarRule
	for _, n := range append(extremes(), 100001) {
		l = append(l, api.SolarRule{Every: n}, api.SolarRule{But: n}, api.SolarRule{Unless: n}, api.SolarRule{Every: n, But: 100, Unless: 400}, api.SolarRule{Every: 4, But: n, Unless: 400}, api.SolarRule{Every: 4, But: 100, Unless: n})
	}
	return l
}

// badLunar are rules for months that are invalid, each for one reason.
func badLunar() []api.LunarRule {
	var l []api.LunarRule
	for i, near := range [][]int{{53, 63}, {0}, {-1, 2}, {227, 248}, {0}, {-1, 19}, {0, 13}} {
		for _, n := range append(extremes(), near...) {
			r := moons()
			*[]*int{&r.Days, &r.Per, &r.Phase, &r.Months, &r.Years, &r.Shift, &r.Leap}[i] = n
			l = append(l, r)
		}
	}
	return append(l, api.LunarRule{}, api.LunarRule{Days: 27 * 100001, Per: 100001, Months: 12, Years: 1, Leap: 1}, api.LunarRule{Days: 27, Per: 1, Months: 12 * 100001, Years: 100001, Leap: 1})
}

// badTests are tests that are invalid for the almanac of the examples.
func badTests() []api.DayTest {
	l := []api.DayTest{{}, {Kind: 8}, {Kind: -1}, {Kind: 8, Set: 2, From: 1, To: 2},
		in(api.DayCycle, 7), in(api.DayCycle, 0, 63), {Kind: api.DayCycle, Which: 1}, {Kind: api.DayCycle, Which: 1, Set: 1},
		in(api.DaySolarMonth, 0), in(api.DaySolarMonth, 13), in(api.DaySolarMonth, 1, 63), in(api.DayLunarMonth, 0), in(api.DayLunarMonth, 13), in(api.DayLunarMonth, 12, 32),
		in(api.DaySolarDay, 0), in(api.DaySolarDay, 32), in(api.DaySolarDay, 1, 63), in(api.DayLunarDay, 0), in(api.DayLunarDay, 32), in(api.DayLunarDay, 31, 33),
		between(1, api.MaxDay+1), between(api.MaxDay+1, 1)}
	for kind := api.DayCycle; kind <= api.DayLeap; kind++ {
		l = append(l, api.DayTest{Kind: kind, From: 1}, api.DayTest{Kind: kind, To: 1}, api.DayTest{Kind: kind, From: -1, To: -1})
	}
	for kind := api.DaySolarMonth; kind <= api.DayBetween; kind++ {
		l = append(l, api.DayTest{Kind: kind, Which: 1}, api.DayTest{Kind: kind, Which: -1})
	}
	l = append(l, in(api.DayLeap, 1), in(api.DayLeap, 0), in(api.DayBetween, 1), in(api.DayBetween, 0))
	for _, n := range extremes() {
		l = append(l, api.DayTest{Kind: api.DayTestKind(n)}, api.DayTest{Kind: api.DayCycle, Which: n}, between(0, n), between(n, 0))
	}
	return l
}

package almanac_test

import (
	"reflect"
	"slices"
	"testing"

	"astragal/almanac"
	"astragal/api"
)

// P1, R2: all functions terminate without a panic, whatever they are given, with zero values beside an error.
func TestAnyArguments(t *testing.T) {
	check := func(e api.Errno, results ...any) {
		t.Helper()
		if e != api.OK && !zero(results...) {
			t.Error(results, e)
		}
	}
	numbers := append(extremes(), 0, 1, 12, 31, 59, 60, 61, 64, 4000, 4001, api.MaxDay, api.MaxDay+1)
	lists := [][]api.DayRule{nil, second(), make([]api.DayRule, 30), make([]api.DayRule, 31), {allow(make([]api.DayTest, 7)...)}}
	for _, test := range badTests() {
		lists = append(lists, []api.DayRule{allow(test)})
	}
	for _, n := range numbers {
		check(almanac.Check(api.Almanac{Cycles: []api.Cycle{{Length: n, Start: n}}, Solar: api.SolarRule{Every: n, But: n, Unless: n}, Lunar: api.LunarRule{Days: n, Per: n, Phase: n, Months: n, Years: n, Shift: n, Leap: n}}))
		for _, m := range numbers {
			p, e := almanac.Position(api.Cycle{Length: n, Start: m}, m)
			check(e, p)
			day, period, e := almanac.Meet([]api.Cycle{{Length: n}, {Length: 5, Start: 1}}, []int{m, m}, m)
			check(e, day, period)
			s, e := almanac.Solar(api.SolarRule{Every: n, But: m, Unless: n}, m)
			check(e, s)
			l, e := almanac.Lunar(api.LunarRule{Days: n, Per: m, Months: n, Years: m, Leap: 1}, m)
			check(e, l)
			for _, date := range [][3]int{{n, m, m}, {m, n, m}, {m, m, n}} {
				day, e := almanac.SolarDay(api.SolarRule{Every: max(date[0], 0) % 7}, api.SolarDate{Year: date[0], Month: date[1], Day: date[2]})
				check(e, day)
				day, e = almanac.LunarDay(moons(), api.LunarDate{Year: date[0], Month: date[1], Day: date[2], Leap: true})
				check(e, day)
			}
		}
	}
	for _, a := range []api.Almanac{example(), {}, badAlmanacs()[0]} {
		for _, rules := range lists {
			for _, n := range numbers {
				allows, rule, e := almanac.Allowed(a, rules, n)
				check(e, allows, rule)
				for _, m := range []int{-1, 0, 9, n} {
					day, e := almanac.Next(a, rules, m, n)
					check(e, day)
					count, e := almanac.Count(a, rules, m, n)
					check(e, count)
					day, e = almanac.Common(a, slices.Repeat([][]api.DayRule{rules}, 3), m, n)
					check(e, day)
					for _, l := range [][2]int{{m, n}, {n, m}} {
						plan, e := almanac.Plan(a, rules, [2]int{0, 90}, l, 9)
						check(e, plan)
						plan, e = almanac.Plan(a, rules, l, [2]int{1, 5}, n)
						check(e, plan)
					}
				}
			}
		}
	}
}

// R4: no argument is changed, and no result shares memory with one, or is kept.
func TestMemory(t *testing.T) {
	a, persons := example(), [][]api.DayRule{second(), {allow()}}
	b, others := copied(a), [][]api.DayRule{copiedRules(persons[0]), copiedRules(persons[1])}
	c, positions := cycles(10, 12), []int{3, 7}
	var before []int
	for range 2 {
		almanac.Check(a)
		almanac.Meet(c, positions, 0)
		almanac.Allowed(a, persons[0], 3)
		almanac.Next(a, persons[0], 3, 9)
		almanac.Count(a, persons[0], 3, 9)
		almanac.Common(a, persons, 3, 9)
		l := ok(almanac.Plan(a, persons[0], [2]int{0, 30}, [2]int{5, 6}, 3))
		if before != nil && !slices.Equal(l, []int{2, 8, 14}) {
			t.Error("kept memory", l)
		}
		before = l[:cap(l)]
		for i := range before {
			before[i] = -7
		}
		if !reflect.DeepEqual(a, b) || !reflect.DeepEqual(persons, others) || !slices.Equal(c, cycles(10, 12)) || !slices.Equal(positions, []int{3, 7}) {
			t.Fatal("an argument was changed", a, persons, c, positions)
		}
	}
}

// R3: nil lists and empty ones are the same.
func TestNilAndEmpty(t *testing.T) {
	for _, l := range [][]api.DayRule{nil, {}, {{When: nil}}, {{When: []api.DayTest{}}}} {
		allows, rule, e := almanac.Allowed(example(), l, 0)
		if allows || rule != min(len(l), 1)-1 || e != api.OK {
			t.Error(l, allows, rule, e)
		}
	}
	for _, c := range [][]api.Cycle{nil, {}} {
		if e := almanac.Check(api.Almanac{Cycles: c, Lunar: moons()}); e != api.OK {
			t.Error(e)
		}
		for _, positions := range [][]int{nil, {}} {
			if day, period, e := almanac.Meet(c, positions, 9); day != 9 || period != 1 || e != api.OK {
				t.Error(day, period, e)
			}
		}
	}
}

package almanac_test

import (
	"fmt"
	"slices"
	"testing"

	"astragal/almanac"
	"astragal/api"
)

// P8.4: almanacs at the limits of the document are valid.
func TestCheck(t *testing.T) {
	l := []api.Almanac{example(), {Lunar: moons()}, {Cycles: []api.Cycle{}, Lunar: moons()}, {Cycles: slices.Repeat(cycles(64), 8), Lunar: moons()}, {Cycles: []api.Cycle{{Length: 1}, {Length: 64, Start: 63}}, Lunar: moons()}}
	for _, r := range solarRules() {
		l = append(l, api.Almanac{Solar: r, Lunar: moons()})
	}
	for _, r := range []api.SolarRule{{Every: 100000}, {But: 100000}, {Unless: 100000}} {
		l = append(l, api.Almanac{Solar: r, Lunar: moons()})
	}
	for _, r := range lunarRules() {
		l = append(l, api.Almanac{Lunar: r})
	}
	for _, a := range l {
		if e := almanac.Check(a); e != api.OK {
			t.Error(a, e)
		}
	}
}

// P8.4 to P8.7, the first error of each function: none takes an almanac that is not valid, whatever else is wrong.
func TestInvalidAlmanacs(t *testing.T) {
	many := make([]api.DayRule, 31)
	for _, a := range badAlmanacs() {
		if e := almanac.Check(a); e != api.ErrArg {
			t.Error(a, e)
		}
		for _, rules := range [][]api.DayRule{nil, many, {allow(api.DayTest{})}} {
			same(t, a, api.ErrArg, rules, 0, 9)
			same(t, a, api.ErrArg, rules, 9, 0)
		}
		if n, e := almanac.Common(a, make([][]api.DayRule, 11), 9, 0); n != 0 || e != api.ErrArg {
			t.Error(a, n, e)
		}
	}
}

// same checks that all functions with rules have an error: with the rules, alone or behind those of another person, and with the days.
func same(t *testing.T, a api.Almanac, want api.Errno, rules []api.DayRule, from, to int) {
	t.Helper()
	n, e := almanac.Next(a, rules, from, to)
	m, f := almanac.Count(a, rules, from, to)
	c, g := almanac.Common(a, [][]api.DayRule{nil, rules}, from, to)
	l, h := almanac.Plan(a, rules, [2]int{from, to}, [2]int{1, 1}, 1)
	if n != 0 || m != 0 || c != 0 || len(l) != 0 || e != want || f != want || g != want || h != want {
		t.Error(a, rules, from, to, want, n, e, m, f, c, g, l, h)
	}
	if from != to && want == api.ErrRange { // Allowed looks at one day
		return
	}
	if allows, rule, e := almanac.Allowed(a, rules, from); allows || rule != 0 || e != want {
		t.Error(a, rules, from, allows, rule, e)
	}
}

// P8.4 to P8.7: ErrLong comes before ErrForm, and this before ErrRange; each test that is invalid is refused, in each place.
func TestInvalidRules(t *testing.T) {
	for n := 31; n < 34; n++ {
		same(t, example(), api.ErrLong, make([]api.DayRule, n), 0, 9)
		same(t, example(), api.ErrLong, make([]api.DayRule, n), -1, -1)
		same(t, example(), api.ErrLong, slices.Repeat([]api.DayRule{allow(api.DayTest{})}, n), 0, 9)
	}
	good := in(api.DayCycle, 6)
	same(t, example(), api.ErrForm, []api.DayRule{allow(slices.Repeat([]api.DayTest{good}, 7)...)}, 0, 9)
	for _, bad := range badTests() {
		same(t, example(), api.ErrForm, []api.DayRule{allow(bad)}, 0, 9)
		same(t, example(), api.ErrForm, []api.DayRule{forbid(bad)}, -1, -1)
		same(t, example(), api.ErrForm, append(slices.Repeat([]api.DayRule{{}}, 29), allow(good, good, good, good, good, bad)), 0, 9)
		// Not only if the rule decides, or the test before it holds.
		same(t, example(), api.ErrForm, []api.DayRule{allow(between(5, 4), bad), {}}, 0, 9)
	}
	without := example()
	without.Cycles = nil
	same(t, without, api.ErrForm, []api.DayRule{allow(api.DayTest{Kind: api.DayCycle})}, 0, 9)
}

// P8.4 to P8.7: tests and rules at the limits of the document are valid.
func TestValidRules(t *testing.T) {
	a := example()
	a.Cycles = append(slices.Repeat(cycles(1), 7), api.Cycle{Length: 64})
	months, days := uint64(1<<13-2), uint64(1<<32-2)
	for _, test := range []api.DayTest{
		{Kind: api.DayCycle, Which: 7, Set: 1<<64 - 1}, {Kind: api.DayCycle, Which: 0, Set: 1}, {Kind: api.DaySolarMonth, Set: months}, {Kind: api.DayLunarMonth, Set: months}, {Kind: api.DaySolarDay, Set: days}, {Kind: api.DayLunarDay, Set: days}, between(0, api.MaxDay),
	} {
		l := slices.Repeat([]api.DayRule{allow(slices.Repeat([]api.DayTest{test}, 6)...)}, 30)
		if n, e := almanac.Count(a, l, 7, 4007); n != 4001 || e != api.OK {
			t.Error(test, n, e)
		}
		if allows, rule, e := almanac.Allowed(a, l, api.MaxDay); !allows || rule != 29 || e != api.OK {
			t.Error(test, allows, rule, e)
		}
	}
	for _, test := range []api.DayTest{{Kind: api.DayCycle, Which: 7}, {Kind: api.DaySolarMonth}, {Kind: api.DayLunarMonth}, {Kind: api.DaySolarDay}, {Kind: api.DayLunarDay}, between(9, 8), between(api.MaxDay, 0)} {
		if n, e := almanac.Count(a, []api.DayRule{allow(test)}, 0, 4000); n != 0 || e != api.OK {
			t.Error(test, n, e)
		}
	}
}

// P8.4 to P8.7: which days can be looked through.
func TestRange(t *testing.T) {
	always := []api.DayRule{allow()}
	for _, c := range []struct {
		from, to int
		e        api.Errno
	}{{0, 0, api.OK}, {0, 4000, api.OK}, {0, 4001, api.ErrRange}, {996000, 1000000, api.OK}, {995999, 1000000, api.ErrRange}, {1000000, 1000000, api.OK}, {1, 0, api.ErrRange}, {-1, 0, api.ErrRange}, {-1, -1, api.ErrRange}, {999999, 1000001, api.ErrRange}, {1000001, 1000001, api.ErrRange}} {
		if c.e != api.OK {
			same(t, example(), c.e, always, c.from, c.to)
			if n, e := almanac.Common(example(), nil, c.from, c.to); n != 0 || e != c.e {
				t.Error(c, n, e)
			}
			continue
		}
		n, e := almanac.Next(example(), always, c.from, c.to)
		m, f := almanac.Count(example(), always, c.from, c.to)
		x, g := almanac.Common(example(), nil, c.from, c.to)
		l, h := almanac.Plan(example(), always, [2]int{c.from, c.to}, [2]int{1, 1}, 1)
		if n != c.from || m != c.to-c.from+1 || x != c.from || !slices.Equal(l, []int{c.from}) || e != api.OK || f != api.OK || g != api.OK || h != api.OK {
			t.Error(c, n, e, m, f, x, g, l, h)
		}
	}
	for _, a := range extremes() {
		for _, b := range append(extremes(), 0, 5) {
			same(t, example(), api.ErrRange, always, a, b)
			same(t, example(), api.ErrRange, always, b, a)
		}
	}
}

// P8.4, P8.5: tests of all kinds, days that they hold for counted from a date on.
func TestTests(t *testing.T) {
	a := example()
	a.Cycles = append(a.Cycles, api.Cycle{Length: 10, Start: 3})
	for i, c := range []struct {
		test api.DayTest
		want []int // the days from 820 to 860 that it holds for, from and to in turn
	}{
		{in(api.DayCycle, 0), []int{826, 826, 833, 833, 840, 840, 847, 847, 854, 854}},
		{api.DayTest{Kind: api.DayCycle, Which: 1, Set: set(0, 1, 9)}, []int{822, 824, 832, 834, 842, 844, 852, 854}},
		{in(api.DaySolarMonth, 4), []int{821, 850}},
		{in(api.DaySolarMonth, 3, 5), []int{820, 820, 851, 860}},
		{in(api.DaySolarDay, 1), []int{821, 821, 851, 851}},
		{in(api.DaySolarDay, 30, 31), []int{820, 820, 850, 850}},
		// The month from 796 on is the fourth one, that from 826 on the repeated one.
		{in(api.DayLunarMonth, 4), []int{820, 854}},
		{in(api.DayLunarMonth, 5), []int{855, 860}},
		{in(api.DayLunarDay, 1), []int{826, 826, 855, 855}},
		{in(api.DayLunarDay, 29, 30), []int{824, 825, 854, 854}},
		{api.DayTest{Kind: api.DayLeap}, []int{826, 854}},
		{between(830, 833), []int{830, 833}},
		{between(0, 820), []int{820, 820}},
		{between(860, 1000000), []int{860, 860}},
		{between(833, 830), nil},
	} {
		want := map[int]bool{}
		for k := 0; k < len(c.want); k += 2 {
			for day := c.want[k]; day <= c.want[k+1]; day++ {
				want[day] = true
			}
		}
		l := []api.DayRule{allow(c.test)}
		for day := 820; day <= 860; day++ {
			rule := -1
			if want[day] {
				rule = 0
			}
			if allows, number, e := almanac.Allowed(a, l, day); allows != want[day] || number != rule || e != api.OK {
				t.Error(i, day, allows, number, e)
			}
		}
		if n, e := almanac.Count(a, l, 820, 860); n != len(want) || e != api.OK {
			t.Error(i, n, e)
		}
	}
}

// P8.4: the last rule that applies decides, and all tests of a rule have to hold.
func TestLastRule(t *testing.T) {
	for i, c := range []struct {
		rules  []api.DayRule
		allows bool
		rule   int
	}{
		{nil, false, -1},
		{[]api.DayRule{{}}, false, 0},
		{[]api.DayRule{allow()}, true, 0},
		{[]api.DayRule{allow(), forbid()}, false, 1},
		{[]api.DayRule{forbid(), allow()}, true, 1},
		{[]api.DayRule{allow(between(0, 9)), forbid(between(10, 19)), allow(between(20, 29))}, false, 1},
		{[]api.DayRule{allow(between(10, 12)), forbid(between(13, 19))}, true, 0},
		{[]api.DayRule{allow(between(13, 19)), forbid(between(0, 9))}, false, -1},
		{[]api.DayRule{allow(between(0, 12), between(12, 19))}, true, 0},
		{[]api.DayRule{allow(between(0, 12), between(13, 19))}, false, -1},
		{[]api.DayRule{allow(between(13, 19), between(0, 12))}, false, -1},
		{[]api.DayRule{forbid(), allow(between(12, 12), in(api.DayCycle, 5)), forbid(in(api.DayCycle, 6))}, true, 1},
	} {
		if allows, rule, e := almanac.Allowed(example(), c.rules, 12); allows != c.allows || rule != c.rule || e != api.OK {
			t.Error(i, allows, rule, e)
		}
	}
	for _, day := range append(extremes(), api.MaxDay+1) {
		if allows, rule, e := almanac.Allowed(example(), []api.DayRule{allow()}, day); allows || rule != 0 || e != api.ErrRange {
			t.Error(day, allows, rule, e)
		}
	}
}

// P8.4, P8.5, P8.10: rules of all kinds in almanacs of all kinds, against the document's words.
func TestDays(t *testing.T) {
	next, many, none := noise(84), 0, 0
	for range 1500 {
		a, from := noiseAlmanac(next), next(api.MaxDay-70)
		rules, to := noiseRules(next, a, 5, from), from+next(70)
		days := daysOf(a, rules, from, to)
		for day := from; day <= to; day++ {
			want, number := decided(a, rules, day)
			if allows, rule, e := almanac.Allowed(a, rules, day); allows != want || rule != number || e != api.OK {
				t.Fatal(a, rules, day, allows, rule, e, want, number)
			}
		}
		if n, e := almanac.Count(a, rules, from, to); n != len(days) || e != api.OK {
			t.Fatal(a, rules, from, to, n, e, days)
		}
		switch n, e := almanac.Next(a, rules, from, to); {
		case len(days) == 0:
			if n != 0 || e != api.ErrNone {
				t.Fatal(a, rules, from, to, n, e)
			}
			none++
		case n != days[0] || e != api.OK:
			t.Fatal(a, rules, from, to, n, e, days)
		case len(days) <= to-from:
			many++
		}
		parts := from + next(to-from)
		if m := ok(almanac.Count(a, rules, from, parts)); parts < to && m+ok(almanac.Count(a, rules, parts+1, to)) != len(days) {
			t.Fatal(a, rules, from, parts, to, m, days)
		}
		for all, rule := range map[int]api.DayRule{0: forbid(), to - from + 1: allow()} {
			if n, e := almanac.Count(a, append(slices.Clone(rules), rule), from, to); n != all || e != api.OK {
				t.Fatal(a, rules, from, to, n, e)
			}
		}
	}
	if many < 300 || none < 300 {
		t.Error(many, none)
	}
}

// P8.5: 366 and 365 days, and a search that ends with the last day of the longest span.
func TestLongSpans(t *testing.T) {
	for year, n := range map[int]int{4: 366, 5: 365, 100: 365, 400: 366} {
		first := ok(almanac.SolarDay(usual(), api.SolarDate{Year: year, Month: 1, Day: 1}))
		last := ok(almanac.SolarDay(usual(), api.SolarDate{Year: year, Month: 12, Day: 31}))
		if got, e := almanac.Count(example(), []api.DayRule{allow()}, first, last); got != n || e != api.OK {
			t.Error(year, got, e)
		}
	}
	for _, from := range []int{0, 12345, api.MaxDay - api.MaxSpan} {
		to := from + api.MaxSpan
		if n, e := almanac.Next(example(), []api.DayRule{allow(between(to, to))}, from, to); n != to || e != api.OK {
			t.Error(from, n, e)
		}
		if n, e := almanac.Next(example(), []api.DayRule{allow(between(to, to))}, from, to-1); n != 0 || e != api.ErrNone {
			t.Error(from, n, e)
		}
	}
}

// P8.6, P8.11: the first day that is allowed for each person, and no earlier one with a person more.
func TestCommon(t *testing.T) {
	next, found := noise(86), [4]int{}
	for range 1500 {
		a, from := noiseAlmanac(next), next(api.MaxDay-70)
		to := from + next(70)
		var persons [][]api.DayRule
		before := from
		days := daysOf(a, []api.DayRule{allow()}, from, to)
		for number := range 4 {
			n, e := almanac.Common(a, persons, from, to)
			if len(days) == 0 {
				if n != 0 || e != api.ErrNone {
					t.Fatal(a, persons, from, to, n, e)
				}
				break
			}
			if n != days[0] || e != api.OK || n < before {
				t.Fatal(a, persons, from, to, n, e, days)
			}
			for _, rules := range persons {
				if allows, _, e := almanac.Allowed(a, rules, n); !allows || e != api.OK {
					t.Fatal(a, rules, n, e)
				}
			}
			found[number]++
			rules := append([]api.DayRule{allow()}, noiseRules(next, a, 5, from)...)
			persons, before = append(persons, rules), n
			theirs := daysOf(a, rules, from, to)
			days = slices.DeleteFunc(days, func(day int) bool { return !slices.Contains(theirs, day) })
		}
	}
	if found[3] < 300 || found[3] == found[0] {
		t.Error(found)
	}
}

// P8.6: each error, person by person, and the one that is named first.
func TestCommonErrors(t *testing.T) {
	always, many, wrong := []api.DayRule{allow()}, make([]api.DayRule, 31), []api.DayRule{allow(api.DayTest{})}
	for i, c := range []struct {
		persons  [][]api.DayRule
		from, to int
		want     int
		e        api.Errno
	}{
		{nil, 3, 40, 3, api.OK},
		{[][]api.DayRule{}, 3, 3, 3, api.OK},
		{[][]api.DayRule{nil}, 3, 40, 0, api.ErrNone},
		{[][]api.DayRule{always, {}}, 3, 40, 0, api.ErrNone},
		{slices.Repeat([][]api.DayRule{always}, 10), 3, 40, 3, api.OK},
		{slices.Repeat([][]api.DayRule{always}, 11), 3, 40, 0, api.ErrLong},
		{slices.Repeat([][]api.DayRule{wrong}, 11), 9, 0, 0, api.ErrLong},
		{[][]api.DayRule{wrong, many}, 9, 0, 0, api.ErrForm},
		{[][]api.DayRule{many, wrong}, 9, 0, 0, api.ErrLong},
		{[][]api.DayRule{always, nil, many, wrong}, 0, 9, 0, api.ErrLong},
		{[][]api.DayRule{always, nil, wrong, many}, 0, 9, 0, api.ErrForm},
		{append(slices.Repeat([][]api.DayRule{nil}, 9), wrong), 0, 9, 0, api.ErrForm},
		{[][]api.DayRule{nil}, 9, 0, 0, api.ErrRange},
		{[][]api.DayRule{{allow(between(5, 7))}, {allow(between(7, 9))}}, 0, 9, 7, api.OK},
		{[][]api.DayRule{{allow(between(5, 7))}, {allow(between(8, 9))}}, 0, 9, 0, api.ErrNone},
	} {
		if n, e := almanac.Common(example(), c.persons, c.from, c.to); n != c.want || e != c.e {
			t.Error(i, n, e)
		}
	}
}

// The fourth example of the chapter.
func TestExampleOfRules(t *testing.T) {
	rules := second()
	var days []int
	for day := range 60 {
		if allows, _, e := almanac.Allowed(example(), rules, day); e != api.OK {
			t.Error(day, e)
		} else if allows {
			days = append(days, day)
		}
	}
	if s := fmt.Sprint(days); s != "[0 1 2 3 4 7 8 9 10 11 14 15 16 17 18 21 22 23 24 25 28 29 30]" {
		t.Error(s)
	}
	slices.Reverse(rules)
	for day := range 60 {
		want := -1
		if day <= 30 {
			want = 1
		} else if day%7 >= 5 {
			want = 0
		}
		if allows, rule, e := almanac.Allowed(example(), rules, day); allows != (day <= 30) || rule != want || e != api.OK {
			t.Error(day, allows, rule, e)
		}
	}
}

package almanac_test

import (
	"slices"
	"testing"

	"astragal/almanac"
	"astragal/api"
)

// P8.7, P8.12: against a search that tries the days in their order; all conditions, and a turn less.
func TestPlan(t *testing.T) {
	next, found, none, later := noise(87), 0, 0, 0
	for range 3000 {
		a, from := noiseAlmanac(next), next(api.MaxDay-90)
		rules := append([]api.DayRule{allow(noiseTest(next, a, from))}, noiseRules(next, a, 3, from)...)
		days := [2]int{from, from + next(90)}
		gap := [2]int{1 + next(9), 0}
		gap[1] = gap[0] + next(4)
		turns := 1 + next(6)
		some := daysOf(a, rules, days[0], days[1])
		want := planOf(some, gap, turns)
		l, e := almanac.Plan(a, rules, days, gap, turns)
		if want == nil {
			if len(l) != 0 || e != api.ErrNone {
				t.Fatal(a, rules, days, gap, turns, l, e)
			}
			none++
			continue
		}
		if !slices.Equal(l, want) || e != api.OK {
			t.Fatal(a, rules, days, gap, turns, l, e, want)
		}
		if l[0] != some[0] {
			later++
		}
		found++
		keeps(t, a, rules, l, gap)
		if turns > 1 {
			if less, e := almanac.Plan(a, rules, days, gap, turns-1); e != api.OK || slices.Compare(less, l[:turns-1]) > 0 {
				t.Fatal(a, rules, days, gap, turns, less, e, l)
			}
		}
	}
	if found < 500 || none < 500 || later < 50 {
		t.Error(found, none, later)
	}
}

// keeps checks that a plan keeps all conditions.
func keeps(t *testing.T, a api.Almanac, rules []api.DayRule, l []int, gap [2]int) {
	t.Helper()
	for i, day := range l {
		if allows, _, e := almanac.Allowed(a, rules, day); !allows || e != api.OK {
			t.Fatal(a, rules, l, e)
		}
		if i > 0 && (day-l[i-1] < gap[0] || day-l[i-1] > gap[1]) {
			t.Fatal(l, gap)
		}
	}
}

// P8.7: plans for the longest span, with as many turns as there can be.
func TestLongPlans(t *testing.T) {
	always := []api.DayRule{allow()}
	for _, c := range []struct {
		gap   [2]int
		turns int
		e     api.Errno
	}{{[2]int{1, 4000}, 60, api.OK}, {[2]int{67, 67}, 60, api.OK}, {[2]int{67, 4000}, 60, api.OK}, {[2]int{68, 68}, 60, api.ErrNone}, {[2]int{68, 4000}, 60, api.ErrNone}, {[2]int{68, 68}, 59, api.OK}, {[2]int{4000, 4000}, 2, api.OK}, {[2]int{4000, 4000}, 3, api.ErrNone}, {[2]int{1, 1}, 60, api.OK}} {
		for _, from := range []int{0, 777, api.MaxDay - 4000} {
			var want []int
			for i := range c.turns {
				if c.e == api.OK {
					want = append(want, from+i*c.gap[0])
				}
			}
			if l, e := almanac.Plan(example(), always, [2]int{from, from + 4000}, c.gap, c.turns); !slices.Equal(l, want) || e != c.e {
				t.Error(c, from, l, e)
			}
		}
	}
	// All ways end before the gap of 300 days: to try them one after another would never end.
	apart := []api.DayRule{allow(), forbid(between(3001, 3299))}
	for turns, want := range map[int]api.Errno{51: api.OK, 52: api.ErrNone, 60: api.ErrNone} {
		l, e := almanac.Plan(example(), apart, [2]int{0, 4000}, [2]int{60, 68}, turns)
		if e != want || e == api.OK && (len(l) != turns || l[turns-1] != 3000) {
			t.Error(turns, l, e)
		}
	}
	for _, to := range []int{4000, 3540, 3539} {
		last := []api.DayRule{allow(), forbid(between(to-30, to-1))}
		l, e := almanac.Plan(example(), last, [2]int{0, to}, [2]int{60, 61}, 60)
		want := planOf(daysOf(example(), last, 0, to), [2]int{60, 61}, 60)
		if !slices.Equal(l, want) || (e == api.OK) != (want != nil) {
			t.Error(to, l, e, want)
		}
	}
}

// P8.7: a day is left out if no other one follows it, however far ahead.
func TestPlanLooksAhead(t *testing.T) {
	for i, c := range []struct {
		days  []int
		gap   [2]int
		turns int
		want  []int
	}{
		{[]int{0, 5, 10, 11, 16, 21, 26}, [2]int{5, 5}, 4, []int{11, 16, 21, 26}},
		{[]int{0, 4, 6, 9, 12}, [2]int{3, 6}, 4, []int{0, 4, 9, 12}},
		{[]int{0, 4, 6, 9, 12}, [2]int{3, 6}, 3, []int{0, 4, 9}},
		{[]int{0, 4, 6, 12}, [2]int{3, 6}, 3, []int{0, 6, 12}},
		{[]int{0, 4, 6, 12}, [2]int{3, 5}, 2, []int{0, 4}},
		{[]int{0, 4, 6, 12}, [2]int{3, 5}, 3, nil},
		{[]int{0, 2, 4}, [2]int{3, 3}, 2, nil},
		{[]int{7}, [2]int{1, 1}, 1, []int{7}},
		{[]int{7}, [2]int{1, 1}, 2, nil},
		{nil, [2]int{1, 1}, 1, nil},
	} {
		var rules []api.DayRule
		for _, day := range c.days {
			rules = append(rules, allow(between(day, day)))
		}
		l, e := almanac.Plan(example(), rules, [2]int{0, 40}, c.gap, c.turns)
		if !slices.Equal(l, c.want) || (e == api.OK) != (c.want != nil) || e != api.OK && e != api.ErrNone {
			t.Error(i, l, e)
		}
	}
}

// P8.7: what is out of range, each number of it.
func TestPlanErrors(t *testing.T) {
	always := []api.DayRule{allow()}
	good := func() ([2]int, [2]int, int) { return [2]int{0, 30}, [2]int{2, 3}, 4 }
	check := func(days, gap [2]int, turns int, want api.Errno) {
		t.Helper()
		if l, e := almanac.Plan(example(), always, days, gap, turns); e != want || (len(l) > 0) != (e == api.OK) {
			t.Error(days, gap, turns, l, e, want)
		}
		if want != api.ErrRange {
			return
		}
		// No day is allowed: what is out of range comes first. Rules that are not valid come before it.
		if l, e := almanac.Plan(example(), nil, days, gap, turns); e != want || len(l) > 0 {
			t.Error(days, gap, turns, l, e, want)
		}
		if l, e := almanac.Plan(example(), []api.DayRule{allow(api.DayTest{})}, days, gap, turns); e != api.ErrForm || len(l) > 0 {
			t.Error(days, gap, turns, l, e)
		}
	}
	days, gap, turns := good()
	check(days, gap, turns, api.OK)
	for _, n := range append(extremes(), 0, 61) {
		check(days, gap, n, api.ErrRange)
	}
	for _, n := range append(extremes(), 0, 4, 4001) {
		check(days, [2]int{n, 3}, turns, api.ErrRange)
	}
	for _, n := range append(extremes(), 0, 1, 4001) {
		check(days, [2]int{2, n}, turns, api.ErrRange)
	}
	for _, n := range append(extremes(), 31, 4001, api.MaxDay+1) {
		check([2]int{n, 30}, gap, turns, api.ErrRange)
	}
	for _, n := range append(extremes(), 4001, api.MaxDay, api.MaxDay+1) {
		check([2]int{0, n}, gap, turns, api.ErrRange)
	}
	check([2]int{0, 0}, [2]int{4001, 4001}, 1, api.ErrRange)
	check([2]int{0, 0}, [2]int{0, 0}, 1, api.ErrRange)
	check([2]int{0, 0}, [2]int{4000, 4000}, 1, api.OK)
	check([2]int{0, 0}, [2]int{4000, 4000}, 60, api.ErrNone)
}

// The fifth example of the chapter.
func TestExampleOfPlans(t *testing.T) {
	if l, e := almanac.Plan(example(), second(), [2]int{0, 30}, [2]int{5, 6}, 3); !slices.Equal(l, []int{2, 8, 14}) || e != api.OK {
		t.Error(l, e)
	}
}

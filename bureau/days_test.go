package bureau_test

import (
	"fmt"
	"testing"

	"astragal/almanac"
	"astragal/api"
	"astragal/bureau"
)

// The fourth example of the chapter.
func TestExampleOfDays(t *testing.T) {
	says(t, bureau.New(), "cycle 7 0 > 0", "allow m=2 > 0", "forbid c0=96 > 1", "day 5 > ok", "next 10 > 7", "date > 0-1-6 0-1-6")
}

// P12.7: days go on only.
func TestDay(t *testing.T) {
	says(t, bureau.New(), "day -1 > ErrRange", "day 0 > ok", "day 0 > ok", "day 5 > ok", "day 5 > ok", "day 4 > ErrState", "day 0 > ErrState", "day -1 > ErrRange", "day 1000001 > ErrRange", "date > 0-1-6 0-1-6", "day 1000000 > ok", "day 1000000 > ok", "day 999999 > ErrState", "day 1000001 > ErrRange", "day -1 > ErrRange")
}

// P12.7: dates by the sun and by the moon that a bureau has at first, day by day.
func TestDates(t *testing.T) {
	b := bureau.New()
	sun := api.SolarRule{Every: 4, But: 100, Unless: 400}
	moon := api.LunarRule{Days: 59, Per: 2, Phase: 0, Months: 235, Years: 19, Shift: 0, Leap: 4}
	repeated := 0
	check := func(day int) {
		t.Helper()
		s, m := ok(almanac.Solar(sun, day)), ok(almanac.Lunar(moon, day))
		mark := ""
		if m.Leap {
			mark = "*"
			repeated++
		}
		says(t, b, fmt.Sprint("day ", day, " > ok"), fmt.Sprintf("date > %d-%d-%d %d-%d%s-%d", s.Year, s.Month, s.Day, m.Year, m.Month, mark, m.Day))
	}
	for day := range 3000 {
		check(day)
	}
	for day := 3000; day <= 1000000; day += 997 {
		check(day)
	}
	check(1000000)
	if repeated < 60 {
		t.Error(repeated)
	}
	says(t, bureau.New(), "day 59", "date > 0-2-29 0-3-1", "day 60", "date > 0-3-1 0-3-2", "day 825", "date > 2-4-5 2-4-30", "day 826", "date > 2-4-6 2-4*-1", "day 855", "date > 2-5-5 2-5-1", "day 36584", "date > 100-3-1 100-4*-5", "day 146156", "date > 400-2-29 400-8-14")
}

// P12.7: cycles, and the errors of almanacs with them.
func TestCycles(t *testing.T) {
	b := bureau.New()
	says(t, b, "cycle 0 0 > ErrArg", "cycle 65 0 > ErrArg", "cycle 7 7 > ErrArg", "cycle 7 -1 > ErrArg", "cycle -1 -1 > ErrArg", "allow c0=1 > ErrForm")
	for k := range 8 {
		says(t, b, fmt.Sprintf("forbid c%d=1 > ErrForm", k), fmt.Sprintf("cycle %d %d > %d", 2+k, k, k), fmt.Sprintf("forbid c%d=1 > %d", k, k))
	}
	says(t, b, "cycle 7 0 > ErrArg", "cycle 0 0 > ErrArg", "allow c8=1 > ErrForm", "allow c-1=1 > ErrForm", "allow c7=512 > ErrForm", "allow c7=256 > 8", "next 100 > 6", "forbid c7=256 > 9", "allow c1=2 > 10", "day 1", "next 100 > 2", "day 3", "next 1 > ErrNone", "next 2 > 5")
}

// P12.7: another rule for the moon.
func TestMoon(t *testing.T) {
	b := bureau.New()
	says(t, b, "day 830", "date > 2-4-10 2-4*-5", "moon 30 1 0 12 1 0 1 > ok", "date > 2-4-10 2-4-21",
		"moon 26 1 0 12 1 0 1 > ErrArg", "moon 32 1 0 12 1 0 1 > ErrArg", "moon 30 0 0 12 1 0 1 > ErrArg", "moon 30 1 1 12 1 0 1 > ErrArg", "moon 30 1 -1 12 1 0 1 > ErrArg", "moon 30 1 0 11 1 0 1 > ErrArg", "moon 30 1 0 14 1 0 1 > ErrArg", "moon 30 1 0 12 0 0 1 > ErrArg", "moon 30 1 0 12 1 1 1 > ErrArg", "moon 30 1 0 12 1 0 0 > ErrArg", "moon 30 1 0 12 1 0 13 > ErrArg", "date > 2-4-10 2-4-21", "allow M=16 > 0", "next 30 > 830", "moon 59 2 0 235 19 0 4 > ok", "date > 2-4-10 2-4*-5", "allow leap > 1", "next 0 > 830")
	// All numbers differ, so that each has its own place.
	r := api.LunarRule{Days: 591, Per: 20, Phase: 3, Months: 87, Years: 7, Shift: 5, Leap: 11}
	says(t, b, "moon 591 20 3 87 7 5 11 > ok")
	for day := 830; day < 2500; day++ {
		m := ok(almanac.Lunar(r, day))
		s := ok(almanac.Solar(api.SolarRule{Every: 4, But: 100, Unless: 400}, day))
		mark := map[bool]string{true: "*"}[m.Leap]
		says(t, b, fmt.Sprint("day ", day), fmt.Sprintf("date > %d-%d-%d %d-%d%s-%d", s.Year, s.Month, s.Day, m.Year, m.Month, mark, m.Day))
	}
}

// P12.7: each kind of test, and that the last rule that applies decides.
func TestDayRules(t *testing.T) {
	next := func(rules ...string) string {
		b := bureau.New()
		says(t, b, "cycle 7 2", "cycle 5 0")
		for k, rule := range rules {
			says(t, b, fmt.Sprint(rule, " > ", k))
		}
		text, e := b.Line("next 4000")
		if e != api.OK {
			return fmt.Sprint(int(e))
		}
		return text
	}
	for rule, want := range map[string]string{"-": "0", "c0=1": "2", "c0=64": "1", "c1=8": "3", "c0=2,c1=1": "10", "m=2": "0", "m=4": "31", "m=4096": "335", "d=4": "1", "d=2147483648": "30", "M=4": "29", "M=4096": "324", "D=4": "1", "D=1073741824": "58", "leap": "826", "17..40": "17", "1000..900": "7", "m=8,D=2": "88", "0..1000000,17..17": "17"} {
		if got := next("allow " + rule); got != want {
			t.Error(rule, got, want)
		}
		if got := next("forbid " + rule); got != "7" {
			t.Error("forbid", rule, got)
		}
		if got := next("forbid -", "allow "+rule); got != want {
			t.Error("forbid - and", rule, got)
		}
		if got := next("allow "+rule, "forbid -"); got != "7" {
			t.Error(rule, "and forbid", got)
		}
	}
	if got := next("allow -", "forbid 0..9", "allow 7..8,c1=4"); got != "7" {
		t.Error(got)
	}
}

// P12.7: the errors of rules for days, in their order.
func TestDayRuleErrors(t *testing.T) {
	b := bureau.New()
	says(t, b, "cycle 7 0", "allow m=1 > ErrForm", "allow m=8192 > ErrForm", "allow M=1 > ErrForm", "allow M=8192 > ErrForm", "forbid d=1 > ErrForm", "forbid d=4294967296 > ErrForm", "forbid D=1 > ErrForm", "forbid D=4294967296 > ErrForm", "allow c0=128 > ErrForm", "allow c1=0 > ErrForm", "allow c-1=0 > ErrForm", "allow -1..5 > ErrForm", "allow 5..1000001 > ErrForm", "allow leap,leap,leap,leap,leap,leap,leap > ErrForm", "next 5 > ErrNone",
		"allow m=8190 > 0", "allow M=8190,d=4294967294,D=4294967294,c0=127,0..1000000,m=0 > 1")
	for k := 2; k < 30; k++ {
		says(t, b, fmt.Sprint("forbid 3..4 > ", k))
	}
	says(t, b, "allow - > ErrLong", "forbid - > ErrLong", "allow m=1 > ErrLong", "allow x > ErrForm", "next 5 > 0", "day 3", "next 5 > 5")
}

// P12.7: the next days, and how far they are looked for.
func TestNext(t *testing.T) {
	b := bureau.New()
	says(t, b, "next 0 > ErrNone", "next -1 > ErrRange", "next 4000 > ErrNone", "next 4001 > ErrRange", "allow 4000..4000 > 0", "next 3999 > ErrNone", "next 4000 > 4000", "next 4001 > ErrRange", "day 3999", "next 0 > ErrNone", "next 1 > 4000", "day 4000", "next 0 > 4000", "next 4000 > 4000", "day 4001", "next 4000 > ErrNone",
		"allow - > 1", "day 999999", "next 0 > 999999", "next 1 > 999999", "next 2 > ErrRange", "next -1 > ErrRange", "day 1000000", "next 0 > 1000000", "next 1 > ErrRange")
}

package almanac_test

import (
	"slices"
	"testing"

	"astragal/almanac"
	"astragal/api"
)

// P8.1: positions count up from 0 at Start, and begin again after Length, before Start, too.
func TestPosition(t *testing.T) {
	for length := 1; length <= 64; length++ {
		for start := range length {
			c := api.Cycle{Length: length, Start: start}
			for _, first := range []int{0, start, 999999 - 3*length} {
				want := ok(almanac.Position(c, first))
				if first == start && want != 0 {
					t.Fatal(c, want)
				}
				for day := first; day < first+3*length; day++ {
					if n, e := almanac.Position(c, day); n != want || e != api.OK {
						t.Fatal(c, day, n, e, want)
					}
					if want++; want == length {
						want = 0
					}
				}
			}
		}
	}
	if n, e := almanac.Position(api.Cycle{Length: 64, Start: 63}, api.MaxDay); n != 1 || e != api.OK {
		t.Error(n, e)
	}
}

// P8.1: ErrArg comes before ErrRange.
func TestPositionErrors(t *testing.T) {
	for _, c := range badCycles() {
		for _, day := range []int{0, -1, api.MaxDay + 1} {
			if n, e := almanac.Position(c, day); n != 0 || e != api.ErrArg {
				t.Error(c, day, n, e)
			}
		}
	}
	for _, day := range append(extremes(), api.MaxDay+1) {
		if n, e := almanac.Position(api.Cycle{Length: 10, Start: 3}, day); n != 0 || e != api.ErrRange {
			t.Error(day, n, e)
		}
	}
}

// meets reports whether a day has positions in cycles, in the document's words.
func meets(c []api.Cycle, positions []int, day int) bool {
	for i := range c {
		if ((day-c[i].Start)%c[i].Length+c[i].Length)%c[i].Length != positions[i] {
			return false
		}
	}
	return true
}

// P8.1, P8.9: against a search day by day, and no other day has the positions.
func TestMeet(t *testing.T) {
	next, found, never := noise(81), 0, 0
	for n := range 3000 {
		var c []api.Cycle
		var positions []int
		for range next(4) {
			c = append(c, noiseCycle(next, []int{6, 12, 64}[n%3]))
			positions = append(positions, next(c[len(c)-1].Length-1))
		}
		// The days from here on last for two periods, or up to the last day.
		from, all := next(api.MaxDay), 1
		for _, x := range c {
			all = common(all, x.Length)
		}
		var days []int
		for day := from; day <= min(api.MaxDay, from+2*all) && len(days) < 3; day++ {
			if meets(c, positions, day) {
				days = append(days, day)
			}
		}
		day, period, e := almanac.Meet(c, positions, from)
		if len(days) == 0 {
			if day != 0 || period != 0 || e != api.ErrNone {
				t.Fatal(c, positions, from, day, period, e)
			}
			never++
			continue
		}
		if day != days[0] || period != all || e != api.OK || len(days) > 1 && days[1] != day+period {
			t.Fatal(c, positions, from, day, period, e, days, all)
		}
		found++
	}
	if found < 500 || never < 500 {
		t.Error(found, never)
	}
}

// common returns the least common multiple of two numbers, tried one after another.
func common(a, b int) int {
	n := a
	for n%b != 0 {
		n += a
	}
	return n
}

// P8.9: the days that Meet returns one after another are all that have the positions.
func TestMeetAgain(t *testing.T) {
	c := []api.Cycle{{Length: 6, Start: 5}, {Length: 10, Start: 1}, {Length: 15, Start: 14}}
	positions := []int{2, 6, 8}
	var want, got []int
	for day := range 1000 {
		if meets(c, positions, day) {
			want = append(want, day)
		}
	}
	for from := 0; ; {
		day, period, e := almanac.Meet(c, positions, from)
		if day >= 1000 {
			break
		}
		if period != 30 || e != api.OK {
			t.Fatal(from, day, period, e)
		}
		got = append(got, day)
		if n := len(got); n > 1 && got[n-1]-got[n-2] != period {
			t.Error(got)
		}
		from = day + 1
	}
	if len(got) < 30 || !slices.Equal(got, want) {
		t.Error(got, want)
	}
}

// P8.1: cycles that are together longer than all days, and the last day.
func TestMeetFar(t *testing.T) {
	long := []int{64, 63, 61, 59, 55, 53, 47, 43}
	period := 1
	for _, n := range long {
		period *= n
	}
	for _, day := range []int{0, 1, 777777, api.MaxDay - 1, api.MaxDay} {
		var positions []int
		for _, n := range long {
			positions = append(positions, day%n)
		}
		if got, p, e := almanac.Meet(cycles(long...), positions, 0); got != day || p != period || e != api.OK {
			t.Error(day, got, p, e)
		}
		if got, p, e := almanac.Meet(cycles(long...), positions, day); got != day || p != period || e != api.OK {
			t.Error(day, got, p, e)
		}
		if day < api.MaxDay {
			if got, p, e := almanac.Meet(cycles(long...), positions, day+1); got != 0 || p != 0 || e != api.ErrNone {
				t.Error(day, got, p, e)
			}
		}
	}
	for from, want := range map[int]int{0: 0, 5: 5, api.MaxDay: api.MaxDay} {
		if day, p, e := almanac.Meet(nil, []int{}, from); day != want || p != 1 || e != api.OK {
			t.Error(from, day, p, e)
		}
	}
	// 1000000 has the position 0 in a cycle of 10 days; no day behind it is one.
	for _, c := range []struct {
		position, from, day, period int
		e                           api.Errno
	}{{0, 999991, 1000000, 10, api.OK}, {0, 1000000, 1000000, 10, api.OK}, {1, 999991, 999991, 10, api.OK}, {1, 999992, 0, 0, api.ErrNone}, {9, 1000000, 0, 0, api.ErrNone}} {
		if day, p, e := almanac.Meet(cycles(10), []int{c.position}, c.from); day != c.day || p != c.period || e != c.e {
			t.Error(c, day, p, e)
		}
	}
	// The same cycle again and again.
	if day, p, e := almanac.Meet(slices.Repeat(cycles(64), 8), slices.Repeat([]int{63}, 8), 64); day != 127 || p != 64 || e != api.OK {
		t.Error(day, p, e)
	}
	if _, _, e := almanac.Meet(slices.Repeat(cycles(64), 2), []int{63, 62}, 64); e != api.ErrNone {
		t.Error(e)
	}
}

// P8.1: each error, and the one that is named first.
func TestMeetErrors(t *testing.T) {
	type call struct {
		cycles    []api.Cycle
		positions []int
		from      int
	}
	good := func() call { return call{cycles(10, 12), []int{3, 4}, 0} } // never: ErrNone
	faults := []struct {
		e     api.Errno
		spoil func(*call)
	}{
		{api.ErrLong, func(c *call) { c.cycles = append(slices.Repeat(cycles(1), 7), c.cycles...) }},
		{api.ErrArg, func(c *call) { c.cycles[1].Length = 65 }},
		{api.ErrForm, func(c *call) { c.positions = c.positions[1:] }},
		{api.ErrRange, func(c *call) { c.from = -1 }},
		{api.ErrNone, func(c *call) {}},
	}
	for i, first := range faults {
		for _, other := range faults[i:] {
			c := good()
			other.spoil(&c)
			if other.e != first.e {
				first.spoil(&c)
			}
			if day, p, e := almanac.Meet(c.cycles, c.positions, c.from); day != 0 || p != 0 || e != first.e {
				t.Error(c, day, p, e)
			}
		}
	}
	for _, bad := range badCycles() {
		if day, p, e := almanac.Meet([]api.Cycle{{Length: 3}, bad}, []int{0, 0}, 0); day != 0 || p != 0 || e != api.ErrArg {
			t.Error(bad, day, p, e)
		}
	}
	for _, positions := range [][]int{nil, {}, {3}, {3, 7, 0}, {10, 7}, {3, 12}, {-1, 7}, {3, -1}, {3, 1 << 62}} {
		if day, p, e := almanac.Meet(cycles(10, 12), positions, 0); day != 0 || p != 0 || e != api.ErrForm {
			t.Error(positions, day, p, e)
		}
	}
	if _, _, e := almanac.Meet(nil, []int{0}, 0); e != api.ErrForm {
		t.Error(e)
	}
	for _, from := range append(extremes(), api.MaxDay+1) {
		if day, p, e := almanac.Meet(cycles(10), []int{3}, from); day != 0 || p != 0 || e != api.ErrRange {
			t.Error(from, day, p, e)
		}
	}
	if _, _, e := almanac.Meet(slices.Repeat(cycles(10), 8), slices.Repeat([]int{3}, 8), 0); e != api.OK {
		t.Error(e)
	}
}

// The first example of the chapter.
func TestExampleOfCycles(t *testing.T) {
	if n, e := almanac.Position(api.Cycle{Length: 10, Start: 3}, 0); n != 7 || e != api.OK {
		t.Error(n, e)
	}
	if day, p, e := almanac.Meet(cycles(10, 12), []int{3, 7}, 0); day != 43 || p != 60 || e != api.OK {
		t.Error(day, p, e)
	}
	if day, p, e := almanac.Meet(cycles(10, 12), []int{3, 4}, 0); day != 0 || p != 0 || e != api.ErrNone {
		t.Error(day, p, e)
	}
}

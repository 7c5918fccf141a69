package shield_test

import (
	"math"
	"slices"
	"testing"

	"astragal/api"
	"astragal/shield"
)

// P3.6: each place against what the copy has at those of which it is derived.
func TestWrong(t *testing.T) {
	next := noise(36)
	for n := range 3000 {
		s := noiseShield(next)
		if n%2 == 0 {
			s = changed(next, chartOf(api.Mothers{s[0], s[1], s[2], s[3]}), next(6))
		}
		var want []int
		d := drawnOf(s)
		for place := 4; place < 16; place++ {
			if d[place] != d.follows(place) {
				want = append(want, place)
			}
		}
		if l := ok(shield.Wrong(s)); !slices.Equal(l, want) {
			t.Fatal(s, l, want)
		}
	}
}

// P3.7: against all charts, for copies with few wrong marks and with many.
func TestMend(t *testing.T) {
	next, all := noise(37), allCharts()
	several, far := 0, 0
	for n := range 60 {
		s := noiseShield(next)
		if n%2 == 0 {
			s = changed(next, all[next(65535)], n/4)
		}
		want := mended(all, s)
		if r := ok(shield.Mend(s)); r != want {
			t.Fatal(s, r, want)
		}
		if want.Charts > 1 {
			several++
		}
		if want.Marks > 5 {
			far++
		}
	}
	if several == 0 || far == 0 {
		t.Error("all copies were near a chart", several, far)
	}
}

// P3.8: against all charts, for sets of many kinds.
func TestCount(t *testing.T) {
	next, all := noise(38), allCharts()
	found := 0
	for n := range 60 {
		sets := every()
		for range 1 + next(5) {
			place := next(15)
			sets[place] &= api.FigureSet(next(65535))
			if n%3 == 0 {
				sets[place] = 1 << next(15)
			}
		}
		count, first := 0, api.Mothers{}
		for _, s := range all {
			if slices.ContainsFunc([]int{0, 1, 2, 3, 4, 5, 6, 7, 8, 9, 10, 11, 12, 13, 14, 15}, func(place int) bool { return sets[place]>>s[place]&1 == 0 }) {
				continue
			}
			if count == 0 {
				copy(first[:], s[:4])
			}
			count++
		}
		if got, m, e := shield.Count(sets); got != count || m != first || e != api.OK {
			t.Fatal(sets, got, m, e, count, first)
		}
		if count > 0 && first != (api.Mothers{}) {
			found++
		}
	}
	if found == 0 {
		t.Error("no first mothers")
	}
	for place := range 16 {
		if n, m, e := shield.Count(only(place, 0)); n != 0 || m != (api.Mothers{}) || e != api.OK {
			t.Error(place, n, m, e)
		}
		for _, set := range []api.FigureSet{math.MinInt, -1, 65536, math.MaxInt} {
			if n, m, e := shield.Count(only(place, set)); n != 0 || m != (api.Mothers{}) || e != api.ErrArg {
				t.Error(place, set, n, m, e)
			}
		}
	}
}

// P3.9: of the two places from which a line with one mark comes, always the one that has it.
func TestWay(t *testing.T) {
	from := map[int][2]int{14: {12, 13}, 12: {8, 9}, 13: {10, 11}, 8: {0, 1}, 9: {2, 3}, 10: {4, 5}, 11: {6, 7}}
	for _, s := range allCharts() {
		d := drawnOf(s)
		for line := range 4 {
			l, e := shield.Way(s, line)
			if d[14][line] == 2 {
				if len(l) != 0 || e != api.ErrNone {
					t.Fatal(s, line, l, e)
				}
				continue
			}
			if e != api.OK || len(l) != 4 || l[0] != 14 || l[3] > 7 {
				t.Fatal(s, line, l, e)
			}
			for k, place := range l[1:] {
				a, b := from[l[k]][0], from[l[k]][1]
				if place != a && place != b || d[place][line] != 1 || d[a][line]+d[b][line] != 3 {
					t.Fatal(s, line, l)
				}
			}
		}
	}
}

// P3.9: no figure, then no line, then no chart, then no mark.
func TestWayErrors(t *testing.T) {
	copied := lone()
	copied[14] = api.Puer
	even := chartOf(api.Mothers{1, 2, 9, 11}) // its judge has no mark in the lines 0 and 2
	noFigure := copied
	noFigure[15] = 16
	for _, c := range []struct {
		s    api.Shield
		line int
		e    api.Errno
	}{
		{noFigure, 4, api.ErrArg}, {noFigure, 0, api.ErrArg},
		{copied, 4, api.ErrRange}, {copied, -1, api.ErrRange}, {even, 4, api.ErrRange}, {even, math.MinInt, api.ErrRange}, {even, math.MaxInt, api.ErrRange},
		{copied, 2, api.ErrWrong}, {copied, 0, api.ErrWrong}, {changed(noise(1), even, 1), 0, api.ErrWrong}, {noiseShield(noise(2)), 3, api.ErrWrong},
		{even, 0, api.ErrNone}, {even, 2, api.ErrNone}, {api.Shield{}, 0, api.ErrNone},
	} {
		if l, e := shield.Way(c.s, c.line); len(l) != 0 || e != c.e {
			t.Error(c, l, e)
		}
	}
}

// P3.1: copies with what is no figure, at each place.
func TestNoCopies(t *testing.T) {
	for _, f := range noFigures() {
		for place := range 16 {
			s := lone()
			s[place] = f
			if l, e := shield.Wrong(s); len(l) != 0 || e != api.ErrArg {
				t.Error(s, l, e)
			}
			if r, e := shield.Mend(s); r != (api.Repair{}) || e != api.ErrArg {
				t.Error(s, r, e)
			}
			if l, e := shield.Way(s, 0); len(l) != 0 || e != api.ErrArg {
				t.Error(s, l, e)
			}
		}
	}
}

// P3.12: what is a chart, and what is found again.
func TestWrongMarks(t *testing.T) {
	next, all := noise(312), allCharts()
	for range 15 {
		chart := all[next(65535)]
		for marks := range 6 {
			s := changed(next, chart, marks)
			r, wrong := ok(shield.Mend(s)), ok(shield.Wrong(s))
			if (marks == 0) != (len(wrong) == 0) || (marks == 0) != (r.Marks == 0) {
				t.Fatal(chart, s, r, wrong)
			}
			if marks < 3 && r != (api.Repair{Marks: marks, Charts: 1, Shield: chart}) {
				t.Fatal(chart, s, r)
			}
		}
	}
	for _, s := range all[1:] {
		// Charts differ as their sum differs from the chart of Populus alone.
		if apart(s, all[0]) < 6 {
			t.Fatal(s)
		}
	}
}

// P3.13, P3.11: counts for single figures at each place add up, and those for sets are their sums.
func TestCounting(t *testing.T) {
	next := noise(313)
	for place := range 16 {
		sum, some, set := 0, 0, api.FigureSet(next(65535))
		for f := range 16 {
			n, _, e := shield.Count(only(place, 1<<f))
			if e != api.OK {
				t.Fatal(e)
			}
			sum += n
			if set>>f&1 == 1 {
				some += n
			}
			if place == 14 && n != 0 && n != 8192 {
				t.Error("judge", f, n)
			}
		}
		if n, _, _ := shield.Count(only(place, set)); sum != api.Charts || n != some {
			t.Error(place, sum, set, some, n)
		}
	}
}

// The examples 3 to 5 of the chapter.
func TestExamplesOfCopies(t *testing.T) {
	if l := ok(shield.Way(lone(), 0)); !slices.Equal(l, []int{14, 12, 8, 0}) {
		t.Error("example 3", l)
	}
	copied := lone()
	copied[14] = api.Puer
	if l := ok(shield.Wrong(copied)); !slices.Equal(l, []int{14, 15}) {
		t.Error("example 4", l)
	}
	if r := ok(shield.Mend(copied)); r != (api.Repair{Marks: 1, Charts: 1, Shield: lone()}) {
		t.Error("example 4", r)
	}
	if n, m, e := shield.Count(only(14, 1<<api.Via)); n != 8192 || m != (api.Mothers{0, 0, 0, 7}) || e != api.OK {
		t.Error("example 5", n, m, e)
	}
	if n, m, e := shield.Count(only(14, 1<<api.Laetitia)); n != 0 || m != (api.Mothers{}) || e != api.OK {
		t.Error("example 5", n, m, e)
	}
}

// R4: a result is new memory each time.
func TestNewMemory(t *testing.T) {
	copied := lone()
	copied[14] = api.Puer
	a, b := ok(shield.Wrong(copied)), ok(shield.Way(lone(), 3))
	for k := range a {
		a[k] = -1
	}
	for k := range b {
		b[k] = -1
	}
	if !slices.Equal(ok(shield.Wrong(copied)), []int{14, 15}) || !slices.Equal(ok(shield.Way(lone(), 3)), []int{14, 12, 8, 0}) {
		t.Error("memory was kept")
	}
}

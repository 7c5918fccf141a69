package shield_test

import (
	"math"
	"slices"
	"testing"

	"astragal/api"
	"astragal/shield"
)

// P3.3: an odd row is one mark, line by line and mother by mother.
func TestCast(t *testing.T) {
	next := noise(33)
	for range 500 {
		rows, want := make([]int, 16), api.Mothers{}
		for k := range rows {
			rows[k] = 1 + next(api.MaxRow-1)
			if rows[k]%2 == 1 {
				want[k/4] += []api.Figure{1, 2, 4, 8}[k%4]
			}
		}
		if m := ok(shield.Cast(rows)); m != want {
			t.Fatal(rows, m, want)
		}
	}
	for n, want := range map[int]api.Mothers{1: {15, 15, 15, 15}, 2: {}, 999: {15, 15, 15, 15}, api.MaxRow: {}} {
		if m := ok(shield.Cast(slices.Repeat([]int{n}, 16))); m != want {
			t.Error(n, m)
		}
	}
}

// P3.3: how many rows is asked first, then how many marks they have.
func TestCastErrors(t *testing.T) {
	for _, n := range []int{0, 1, 4, 15, 17, 32} {
		for _, marks := range []int{1, 0, 1001} {
			if m, e := shield.Cast(slices.Repeat([]int{marks}, n)); m != (api.Mothers{}) || e != api.ErrLong {
				t.Error(n, marks, m, e)
			}
		}
	}
	if _, e := shield.Cast(nil); e != api.ErrLong {
		t.Error(e)
	}
	for place := range 16 {
		for _, marks := range []int{math.MinInt, -1, 0, 1001, math.MaxInt} {
			rows := slices.Repeat([]int{3}, 16)
			rows[place] = marks
			if m, e := shield.Cast(rows); m != (api.Mothers{}) || e != api.ErrRange {
				t.Error(rows, m, e)
			}
		}
	}
}

// P3.4: all numbers and all mothers.
func TestNumber(t *testing.T) {
	for number := range api.Charts {
		f := api.Figure(number)
		want := api.Mothers{f / 4096, f / 256 % 16, f / 16 % 16, f % 16}
		if m := ok(shield.Mothers(number)); m != want {
			t.Fatal(number, m)
		}
		if n := ok(shield.Number(want)); n != number {
			t.Fatal(want, n)
		}
	}
	for _, number := range []int{math.MinInt, -1, 65536, 65537, math.MaxInt} {
		if m, e := shield.Mothers(number); m != (api.Mothers{}) || e != api.ErrRange {
			t.Error(number, m, e)
		}
	}
}

// P3.5, P3.11: all charts, place by place; even judges, that are the sum of mothers and daughters.
func TestDerive(t *testing.T) {
	judges := map[api.Figure]int{}
	for number, want := range allCharts() {
		s := ok(shield.Derive(ok(shield.Mothers(number))))
		if s != want {
			t.Fatal(number, s, want)
		}
		judges[s[14]]++
		all := api.Populus
		ones := [4]int{}
		for _, f := range s[:8] {
			all = ok(shield.Sum(all, f))
			for line, marks := range ok(shield.Marks(f)) {
				ones[line] += 2 - marks
			}
		}
		judge := ok(shield.Marks(s[14]))
		if all != s[14] || (judge[0]+judge[1]+judge[2]+judge[3])%2 != 0 {
			t.Fatal(number, s)
		}
		for line, marks := range judge {
			if ones[line]%2 != 2-marks {
				t.Fatal(number, s, line)
			}
		}
		other := ok(shield.Derive(api.Mothers{s[4], s[5], s[6], s[7]}))
		if !slices.Equal(other[4:8], s[:4]) || other[12] != s[13] || other[13] != s[12] || other[14] != s[14] {
			t.Fatal(number, s, "exchanged", other)
		}
	}
	if len(judges) != 8 {
		t.Error(judges)
	}
	for f, n := range judges {
		if n != 8192 {
			t.Error(f, n)
		}
	}
}

// P3.1: mothers with what is no figure, at each place.
func TestNoMothers(t *testing.T) {
	for _, f := range noFigures() {
		for place := range 4 {
			m := api.Mothers{1, 2, 3, 4}
			m[place] = f
			if n, e := shield.Number(m); n != 0 || e != api.ErrArg {
				t.Error(m, n, e)
			}
			if s, e := shield.Derive(m); s != (api.Shield{}) || e != api.ErrArg {
				t.Error(m, s, e)
			}
		}
	}
}

// R4: rows are not changed.
func TestRowsStay(t *testing.T) {
	rows := []int{7, 4, 12, 20, 8, 3, 6, 2, 9, 10, 14, 13, 1, 5, 2, 11}
	was := slices.Clone(rows)
	ok(shield.Cast(rows))
	if !slices.Equal(rows, was) {
		t.Error(rows)
	}
}

// The second example of the chapter.
func TestExampleOfCharts(t *testing.T) {
	m := ok(shield.Cast([]int{1, 1, 1, 1, 2, 2, 2, 2, 2, 2, 2, 2, 2, 2, 2, 2}))
	if m != (api.Mothers{api.Via, api.Populus, api.Populus, api.Populus}) || ok(shield.Number(m)) != 61440 {
		t.Error(m)
	}
	if s := ok(shield.Derive(m)); s != lone() {
		t.Error(s)
	}
}

// lone is the chart of the chapter's second example.
func lone() api.Shield {
	return api.Shield{15, 0, 0, 0, 1, 1, 1, 1, 15, 0, 0, 0, 15, 0, 15, 0}
}

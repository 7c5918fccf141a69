package house_test

import (
	"slices"
	"testing"

	"astragal/api"
	"astragal/house"
	"astragal/shield"
)

// P5.1: the figures of a chart from the place 0 on.
func TestOf(t *testing.T) {
	for number := 0; number < api.Charts; number += 7 {
		s := ok(shield.Derive(ok(shield.Mothers(number))))
		h := ok(house.Of(s))
		for n := 1; n <= 12; n++ {
			if h[n-1] != s[n-1] {
				t.Fatal(s, h)
			}
		}
	}
}

// P5.1: a figure that there is not, then what is no chart, at each place.
func TestOfErrors(t *testing.T) {
	chart := ok(shield.Derive(api.Mothers{api.Laetitia, api.Rubeus, api.Carcer, api.Puer}))
	for place := range 16 {
		for line := range 4 {
			s := chart
			s[place] ^= 1 << line
			if h, e := house.Of(s); h != (api.Houses{}) || e != api.ErrWrong {
				t.Error(s, h, e)
			}
		}
		for _, f := range noFigures() {
			for _, s := range []api.Shield{chart, {1, 2, 3, 4, 5, 6, 7, 8, 9}} {
				s[place] = f
				if h, e := house.Of(s); h != (api.Houses{}) || e != api.ErrArg {
					t.Error(s, h, e)
				}
			}
		}
	}
}

// P5.1: any twelve figures are houses, of a chart or not.
func TestCheck(t *testing.T) {
	next := noise(51)
	for range 200 {
		if h := noiseHouses(next, 12); house.Check(h) != api.OK {
			t.Error(h)
		}
	}
	for i := range 12 {
		for _, f := range noFigures() {
			h := four()
			h[i] = f
			if e := house.Check(h); e != api.ErrArg {
				t.Error(h, e)
			}
		}
		for _, f := range []api.Figure{api.Populus, api.Via} {
			h := four()
			h[i] = f
			if e := house.Check(h); e != api.OK {
				t.Error(h, e)
			}
		}
	}
}

// P5.2, P5.13: each figure has one ruler, and is among those that this one rules.
func TestRulers(t *testing.T) {
	ruled := 0
	for p, want := range rules() {
		slices.Sort(want)
		if l := ok(house.Ruled(p)); !slices.Equal(l, want) {
			t.Error(p, l, want)
		}
		for _, f := range want {
			if ruler := ok(house.Ruler(f)); ruler != p {
				t.Error(f, ruler, p)
			}
			ruled++
		}
	}
	if ruled != 16 {
		t.Error(ruled)
	}
	for f := range api.Figure(16) {
		if !slices.Contains(ok(house.Ruled(ok(house.Ruler(f)))), f) {
			t.Error(f)
		}
	}
}

// P5.2: what is no figure, and what rules none.
func TestNoRulers(t *testing.T) {
	for _, f := range noFigures() {
		if p, e := house.Ruler(f); p != 0 || e != api.ErrArg {
			t.Error(f, p, e)
		}
		p := api.Planet(f)
		if l, e := house.Ruled(p); len(l) != 0 || e != api.ErrRange {
			t.Error(p, l, e)
		}
	}
	if l, e := house.Ruled(9); len(l) != 0 || e != api.ErrRange {
		t.Error(l, e)
	}
}

// P5.3: the shorter way round the circle, of each pair of houses.
func TestApart(t *testing.T) {
	for a, b := range pairs {
		if n := ok(house.Apart(a, b)); n != walked(a, b) {
			t.Error(a, b, n)
		}
	}
	for _, c := range [][3]int{{5, 5, 0}, {12, 1, 1}, {1, 12, 1}, {6, 12, 6}, {1, 8, 5}} {
		if n := ok(house.Apart(c[0], c[1])); n != c[2] {
			t.Error(c, n)
		}
	}
	for _, n := range noHouses() {
		for _, c := range [][2]int{{n, 3}, {3, n}, {n, n}} {
			if m, e := house.Apart(c[0], c[1]); m != 0 || e != api.ErrRange {
				t.Error(c, m, e)
			}
		}
	}
}

// P5.3: all houses with the same figure, itself too.
func TestStands(t *testing.T) {
	next := noise(53)
	for n := range 300 {
		h := noiseHouses(next, 1+n%12)
		for a := 1; a <= 12; a++ {
			var want []int
			for b := 1; b <= 12; b++ {
				if h[a-1] == h[b-1] {
					want = append(want, b)
				}
			}
			if l := ok(house.Stands(h, a)); !slices.Equal(l, want) {
				t.Fatal(h, a, l, want)
			}
		}
	}
}

// The errors of all functions with houses: first the figures, then the numbers of houses, then two that are the same.
func TestErrors(t *testing.T) {
	for i := range 12 {
		for _, f := range noFigures() {
			h := four()
			h[i] = f
			for _, c := range [][2]int{{1, 2}, {0, 2}, {1, 13}, {7, 7}, {0, 0}} {
				alike(t, h, c[0], c[1], api.ErrArg, api.ErrArg)
			}
		}
	}
	for _, n := range noHouses() {
		alike(t, four(), n, 4, api.ErrRange, api.ErrRange)
		alike(t, four(), 4, n, api.OK, api.ErrRange)
		alike(t, four(), n, n, api.ErrRange, api.ErrRange)
	}
	for n := 1; n <= 12; n++ {
		alike(t, four(), n, n, api.OK, api.ErrTwice)
		alike(t, api.Houses{}, n, n, api.OK, api.ErrTwice)
	}
}

// alike checks that functions with one house and with two return an error, with zero values.
func alike(t *testing.T, h api.Houses, a, b int, one, both api.Errno) {
	t.Helper()
	l, e := house.Stands(h, a)
	p, how, f := house.Partner(h, a)
	if e != one || f != one || one != api.OK && (len(l) != 0 || p != 0 || how != 0) {
		t.Error(h, a, l, e, p, how, f)
	}
	ties, e := house.Ties(h, a, b)
	aspects, f := house.Aspects(h, a, b)
	if len(ties) != 0 || len(aspects) != 0 || e != both || f != both {
		t.Error(h, a, b, ties, e, aspects, f)
	}
	v, e := house.Judge(h, a, b)
	best, worst, f := house.Least(h, a, b)
	if v != 0 || best != 0 || worst != 0 || e != both || f != both {
		t.Error(h, a, b, v, e, best, worst, f)
	}
}

// R4: what is done to a result does not change another one.
func TestMemory(t *testing.T) {
	for p := range api.Planet(9) {
		l := ok(house.Ruled(p))
		was := slices.Clone(l)
		for i := range l {
			l[i] = 99
		}
		if again := ok(house.Ruled(p)); !slices.Equal(again, was) {
			t.Error(p, again)
		}
	}
	l := ok(house.Stands(four(), 8))
	l[0], l[1] = 99, 99
	if again := ok(house.Stands(four(), 8)); !slices.Equal(again, []int{8, 12}) {
		t.Error(again)
	}
}

// The first example of the chapter.
func TestExampleOfHouses(t *testing.T) {
	s := ok(shield.Derive(api.Mothers{api.Laetitia, api.Rubeus, api.Carcer, api.Puer}))
	h := ok(house.Of(s))
	if h != four() {
		t.Error(h)
	}
	if l := ok(house.Stands(h, 2)); !slices.Equal(l, []int{2, 10}) || h[1] != api.Rubeus {
		t.Error(l)
	}
	if l := ok(house.Stands(h, 12)); !slices.Equal(l, []int{8, 12}) || h[11] != api.FortunaMajor {
		t.Error(l)
	}
}

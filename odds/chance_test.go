package odds_test

import (
	"math"
	"math/big"
	"testing"

	"astragal/api"
	"astragal/odds"
)

// P1.6: ordinary chances, and those with the greatest numbers.
func TestChances(t *testing.T) {
	for _, c := range []struct {
		a, b         api.Chance
		compared     int
		both, either api.Chance
		e, f         api.Errno
	}{
		{part(1, 2), part(1, 6), 1, part(1, 12), part(2, 3), api.OK, api.OK},
		{part(1, 6), part(1, 2), -1, part(1, 12), part(2, 3), api.OK, api.OK},
		{part(2, 5), part(2, 5), 0, part(4, 25), part(4, 5), api.OK, api.OK},
		{part(3, 4), part(2, 9), 1, part(1, 6), part(35, 36), api.OK, api.OK},
		{part(1, 6), part(1, 3), -1, part(1, 18), part(1, 2), api.OK, api.OK},
		{part(0, 1), part(0, 1), 0, part(0, 1), part(0, 1), api.OK, api.OK},
		{part(0, 1), part(1, most), -1, part(0, 1), part(1, most), api.OK, api.OK},
		{part(1, 1), part(1, most), 1, part(1, most), part(0, 0), api.OK, api.ErrRange},
		{part(1, 1), part(0, 1), 1, part(0, 1), part(1, 1), api.OK, api.OK},
		{part(1, 1), part(1, 1), 0, part(1, 1), part(0, 0), api.OK, api.ErrRange},
		{part(most-1, most), part(1, most), 1, part(0, 0), part(1, 1), api.ErrOver, api.OK},
		{part(most-1, most), part(1, most-1), 1, part(1, most), part(0, 0), api.OK, api.ErrRange},
		{part(most-1, most), part(most-2, most-1), 1, part(most/2-1, most/2), part(0, 0), api.OK, api.ErrRange},
		{part(1, most), part(1, most-1), -1, part(0, 0), part(0, 0), api.ErrOver, api.ErrOver},
		{part(1, most/2), part(1, 2), -1, part(1, most), part(most/4+1, most/2), api.OK, api.OK},
		{part(1, most/2), part(1, 3), -1, part(0, 0), part(0, 0), api.ErrOver, api.ErrOver},
		{part(1, 1000003), part(1, 999999937), 1, part(0, 0), part(0, 0), api.ErrOver, api.ErrOver},
		{part(1, most/8), part(1, 8), -1, part(1, most), part(most/64+1, most/8), api.OK, api.OK},
		{part(500000000000001, most), part(1, 2), 1, part(0, 0), part(0, 0), api.ErrOver, api.ErrRange},
		{part(372000048400001, 930000121000003), part(418500128458479, 930000241000007), -1, part(0, 0), part(816850284175444, 961000310000021), api.ErrOver, api.OK}, // Dens that share 30000001
		{part(499999999999999, most), part(1, 2), -1, part(0, 0), part(999999999999999, most), api.ErrOver, api.OK},
	} {
		if n, e := odds.Compare(c.a, c.b); n != c.compared || e != api.OK {
			t.Error("Compare", c.a, c.b, n, e)
		}
		if x, e := odds.Both(c.a, c.b); x != c.both || e != c.e {
			t.Error("Both", c.a, c.b, x, e)
		}
		if x, e := odds.Either(c.a, c.b); x != c.either || e != c.f {
			t.Error("Either", c.a, c.b, x, e)
		}
	}
}

// P1.6: what is left to 1.
func TestNot(t *testing.T) {
	for _, c := range []struct{ a, want api.Chance }{
		{part(3, 8), part(5, 8)}, {part(0, 1), part(1, 1)}, {part(1, 1), part(0, 1)}, {part(1, most), part(most-1, most)}, {part(1, 2), part(1, 2)},
	} {
		if x, e := odds.Not(c.a); x != c.want || e != api.OK {
			t.Error(c.a, x, e)
		}
	}
}

// P1.6: chances that are not valid, on either side; this error comes before the others.
func TestWrongChances(t *testing.T) {
	for _, bad := range []api.Chance{
		part(0, 0), part(1, 0), part(0, 2), part(2, 4), part(6, 9), part(3, 2), part(-1, 2), part(1, -2), part(-1, -2), part(0, -1), part(2, 2),
		part(1, most+1), part(most+1, most+1), part(0, most), part(math.MaxInt, math.MaxInt), part(math.MinInt, 1), part(1, math.MinInt), part(math.MinInt, math.MinInt),
	} {
		for _, c := range [][2]api.Chance{{bad, part(1, 2)}, {part(1, 1), bad}, {part(1, most), bad}, {bad, bad}} {
			n, e := odds.Compare(c[0], c[1])
			x, f := odds.Both(c[0], c[1])
			y, g := odds.Either(c[0], c[1])
			if e != api.ErrArg || f != api.ErrArg || g != api.ErrArg || n != 0 || x != part(0, 0) || y != part(0, 0) {
				t.Error(c, n, x, y, e, f, g)
			}
		}
		if x, e := odds.Not(bad); x != part(0, 0) || e != api.ErrArg {
			t.Error("Not", bad, x, e)
		}
	}
}

// someChances returns valid chances with small and with great numbers.
func someChances() []api.Chance {
	var l []api.Chance
	next := noise(6)
	for _, limit := range []int{1, 6, 6, 12, 12, 60, 1000, 40000000, 100000000, most, most} {
		for range 6 {
			den := 1 + next(limit-1)
			r := big.NewRat(int64(next(den)), int64(den))
			l = append(l, part(int(r.Num().Int64()), int(r.Denom().Int64())))
		}
	}
	return l
}

// checkFraction compares a chance and an error with the exact value.
func checkFraction(t *testing.T, name string, c api.Chance, e api.Errno, want *big.Rat) {
	t.Helper()
	switch {
	case want.Cmp(big.NewRat(1, 1)) > 0:
		if e != api.ErrRange || c != part(0, 0) {
			t.Error(name, c, e, "want", want)
		}
	case want.Denom().Cmp(big.NewInt(most)) > 0:
		if e != api.ErrOver || c != part(0, 0) {
			t.Error(name, c, e, "want", want)
		}
	case e != api.OK || want.Num().Int64() != int64(c.Num) || want.Denom().Int64() != int64(c.Den):
		t.Error(name, c, e, "want", want)
	}
}

// P1.6: all are as the exact numbers say.
func TestExactChances(t *testing.T) {
	for _, a := range someChances() {
		x, e := odds.Not(a)
		checkFraction(t, "Not", x, e, new(big.Rat).Sub(big.NewRat(1, 1), ratio(a)))
		for _, b := range someChances() {
			if n, e := odds.Compare(a, b); n != ratio(a).Cmp(ratio(b)) || e != api.OK {
				t.Error("Compare", a, b, n, e)
			}
			x, e := odds.Both(a, b)
			checkFraction(t, "Both", x, e, new(big.Rat).Mul(ratio(a), ratio(b)))
			x, e = odds.Either(a, b)
			checkFraction(t, "Either", x, e, new(big.Rat).Add(ratio(a), ratio(b)))
		}
	}
}

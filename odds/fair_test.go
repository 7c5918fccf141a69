package odds_test

import (
	"math"
	"testing"

	"astragal/api"
	"astragal/odds"
)

// P1.11: ordinary throws, the limits themselves and one beyond, and errors in their order.
func TestFair(t *testing.T) {
	const sides = api.MaxSides
	for i, c := range []struct {
		sides, below int
		throws       []int
		value, used  int
		e            api.Errno
	}{
		{6, 4, []int{5, 2}, 0, 2, api.OK},
		{6, 4, []int{3, 5}, 3, 1, api.OK},
		{2, 3, []int{1, 0}, 2, 2, api.OK},
		{2, 3, []int{1, 1, 1, 0}, 2, 4, api.OK},
		{6, 36, []int{2, 5}, 17, 2, api.OK},
		{6, 1, nil, 0, 0, api.OK},
		{6, 1, []int{5}, 0, 0, api.OK},
		{2, 2, []int{1, 0}, 1, 1, api.OK},
		{sides, sides, []int{sides - 1}, sides - 1, 1, api.OK},
		{2, sides, filled(20, 0), 0, 20, api.OK},
		{2, sides, filled(19, 0), 0, 0, api.ErrNone},
		{sides, 2, []int{sides - 1}, 1, 1, api.OK},
		{2, 2, filled(api.MaxThrows, 1), 1, 1, api.OK},
		{6, 4, nil, 0, 0, api.ErrNone},
		{2, 3, []int{1, 1, 1, 1}, 0, 0, api.ErrNone},
		{1, 4, nil, 0, 0, api.ErrRange},
		{0, 4, []int{9}, 0, 0, api.ErrRange},
		{sides + 1, 4, nil, 0, 0, api.ErrRange},
		{6, 0, nil, 0, 0, api.ErrRange},
		{6, -1, filled(api.MaxThrows+1, 9), 0, 0, api.ErrRange},
		{6, sides + 1, nil, 0, 0, api.ErrRange},
		{math.MinInt, math.MaxInt, nil, 0, 0, api.ErrRange},
		{math.MaxInt, math.MinInt, []int{1}, 0, 0, api.ErrRange},
		{2, 2, filled(api.MaxThrows+1, 0), 0, 0, api.ErrLong},
		{2, 2, filled(api.MaxThrows+1, 2), 0, 0, api.ErrLong},
		{2, 1, filled(api.MaxThrows+1, 0), 0, 0, api.ErrLong},
		{6, 4, []int{6}, 0, 0, api.ErrArg},
		{6, 4, []int{-1}, 0, 0, api.ErrArg},
		{6, 4, []int{3, 6}, 0, 0, api.ErrArg}, // one that is not used
		{6, 1, []int{6}, 0, 0, api.ErrArg},
		{2, 3, []int{1, 1, -1}, 0, 0, api.ErrArg},
		{6, 4, []int{math.MinInt, math.MaxInt}, 0, 0, api.ErrArg},
	} {
		if v, used, e := odds.Fair(c.sides, c.below, c.throws); v != c.value || used != c.used || e != c.e {
			t.Error(i, v, used, e)
		}
	}
}

// P1.11, P1: as many throws as there can be, each with as many steps as there can be, are done in time.
func TestFairLong(t *testing.T) {
	const sides = api.MaxSides - 1
	throws := filled(api.MaxThrows, sides-1)
	if v, used, e := odds.Fair(sides, 2, throws); v != 0 || used != 0 || e != api.ErrNone {
		t.Error(v, used, e)
	}
	throws[api.MaxThrows-1] = 5
	if v, used, e := odds.Fair(sides, 2, throws); v != 1 || used != api.MaxThrows || e != api.OK {
		t.Error(v, used, e)
	}
}

// plainFair carries out the steps of the document one by one.
func plainFair(sides, below int, throws []int) (value, used int, e api.Errno) {
	size := 1
	for {
		for size >= below {
			if value < below {
				return value, used, api.OK
			}
			size, value = size-below, value-below
		}
		if used == len(throws) {
			return 0, 0, api.ErrNone
		}
		size, value = size*sides, value*sides+throws[used]
		used++
	}
}

// P1.11: the steps of the document, with all short lists of throws.
func TestFairSteps(t *testing.T) {
	for sides := 2; sides <= 7; sides++ {
		for below := 1; below <= 40; below++ {
			for n := range 4 {
				for throws := range allLists(n, sides) {
					v, used, e := odds.Fair(sides, below, throws)
					w, all, f := plainFair(sides, below, throws)
					if v != w || used != all || e != f {
						t.Fatal(sides, below, throws, v, used, e, "want", w, all, f)
					}
				}
			}
		}
	}
	next := noise(11)
	for range 2000 {
		sides, below := 2+next(99), 1+next(9999)
		throws := make([]int, 1+next(5))
		for k := range throws {
			throws[k] = next(sides - 1)
		}
		v, used, e := odds.Fair(sides, below, throws)
		if w, all, f := plainFair(sides, below, throws); v != w || used != all || e != f {
			t.Fatal(sides, below, throws, v, used, e, "want", w, all, f)
		}
	}
}

// P1.13: among all lists of so many throws each value occurs equally often, whenever it is decided.
func TestFairIsFair(t *testing.T) {
	for sides := 2; sides <= 6; sides++ {
		for below := 1; below <= 20; below++ {
			for n := range 6 {
				often := make([]int, below)
				last := make([]int, below) // decided with the last throw
				for throws := range allLists(n, sides) {
					if v, used, e := odds.Fair(sides, below, throws); e == api.OK {
						often[v]++
						if used == n {
							last[v]++
						}
					}
				}
				for v := range below {
					if often[v] != often[0] || last[v] != last[0] {
						t.Fatal(sides, below, n, often, last)
					}
				}
			}
		}
	}
}

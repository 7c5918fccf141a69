package odds_test

import (
	"math"
	"slices"
	"testing"

	"astragal/api"
	"astragal/odds"
)

const most = api.MaxNumber

// P1.1: which lists are valid, with the limits themselves and one beyond.
func TestCheck(t *testing.T) {
	for i, c := range []struct {
		w []int
		e api.Errno
	}{
		{[]int{1}, api.OK},
		{[]int{0, 1, 0}, api.OK},
		{[]int{most}, api.OK},
		{[]int{most - 1, 0, 1}, api.OK},
		{filled(api.MaxOutcomes, 1), api.OK},
		{append(filled(api.MaxOutcomes-1, 0), most), api.OK},
		{nil, api.ErrArg},
		{[]int{}, api.ErrArg},
		{[]int{0}, api.ErrArg},
		{filled(api.MaxOutcomes, 0), api.ErrArg},
		{[]int{-1}, api.ErrArg},
		{[]int{5, -1}, api.ErrArg},
		{[]int{most + 1}, api.ErrArg},
		{[]int{most + 1, -1}, api.ErrArg},
		{[]int{most, 1}, api.ErrArg},
		{filled(api.MaxOutcomes, most), api.ErrArg},
		{[]int{math.MaxInt, math.MaxInt, 3}, api.ErrArg},
		{[]int{math.MinInt, math.MinInt, 1}, api.ErrArg},
		{filled(api.MaxOutcomes+1, 1), api.ErrLong},
		{filled(api.MaxOutcomes+1, 0), api.ErrLong},
		{filled(api.MaxOutcomes+1, -1), api.ErrLong},
	} {
		if e := odds.Check(c.w); e != c.e {
			t.Error(i, e, "want", c.e)
		}
	}
}

// oneList calls each function with one list of weights, with other arguments that have errors, too.
func oneList(t *testing.T, w []int) map[string]api.Errno {
	t.Helper()
	got := map[string]api.Errno{}
	list := func(name string, l []int, e api.Errno) {
		t.Helper()
		got[name] = e
		if e != api.OK && len(l) > 0 {
			t.Error(name, "has a result beside the error", e)
		}
	}
	got["Check"] = odds.Check(w)
	n, e := odds.Total(w)
	list("Total", filled(min(1, max(n, -n)), 1), e)
	l, e := odds.Lowest(w)
	list("Lowest", l, e)
	c, e := odds.Of(w, []int{-1})
	list("Of", filled(c.Num+c.Den, 1), e)
	l, e = odds.Given(w, []int{-1})
	list("Given", l, e)
	l, e = odds.Map(w, nil, 0)
	list("Map", l, e)
	k, e := odds.Pick(w, -1)
	list("Pick", filled(k, 1), e)
	l, e = odds.Repeat(w, -1)
	list("Repeat", l, e)
	l, e = odds.Mix(w, nil)
	list("Mix", l, e)
	return got
}

// P1.1: the errors of a list come before all others.
func TestListFirst(t *testing.T) {
	for i, c := range []struct {
		w []int
		e api.Errno
	}{
		{nil, api.ErrArg}, {[]int{0, 0}, api.ErrArg}, {[]int{2, -1}, api.ErrArg}, {[]int{most, 1}, api.ErrArg},
		{filled(api.MaxOutcomes+1, -1), api.ErrLong},
	} {
		for name, e := range oneList(t, c.w) {
			if e != c.e {
				t.Error(i, name, e, "want", c.e)
			}
		}
	}
	want := map[string]api.Errno{"Of": api.ErrArg, "Given": api.ErrArg, "Map": api.ErrRange, "Pick": api.ErrRange, "Repeat": api.ErrRange, "Mix": api.ErrArg}
	for name, e := range oneList(t, []int{1}) {
		if e != want[name] {
			t.Error("a valid list", name, e, "want", want[name])
		}
	}
}

// P1.1: the errors of two lists come in the order of the lists, before all others.
func TestTwoListsFirst(t *testing.T) {
	good, bad, long := []int{1, 2}, []int{0, 0, 0}, filled(api.MaxOutcomes+1, 1)
	for i, c := range []struct {
		a, b []int
		e    api.Errno
	}{
		{long, bad, api.ErrLong}, {bad, long, api.ErrArg}, {good, long, api.ErrLong}, {good, bad, api.ErrArg},
		{nil, long, api.ErrArg}, {long, nil, api.ErrLong}, {good, nil, api.ErrArg}, {nil, good, api.ErrArg}, {long, good, api.ErrLong},
	} {
		same, e := odds.Same(c.a, c.b)
		joined, f := odds.Join(c.a, c.b)
		sum, g := odds.Sum(c.a, c.b)
		apart, h := odds.Apart(c.a, c.b)
		if e != c.e || f != c.e || g != c.e || h != c.e {
			t.Error(i, e, f, g, h, "want", c.e)
		}
		if same || len(joined) > 0 || len(sum) > 0 || apart != part(0, 0) {
			t.Error(i, "a result beside the error", same, joined, sum, apart)
		}
	}
}

// P1.2: sums and lowest terms.
func TestTotalLowest(t *testing.T) {
	for _, c := range []struct {
		w      []int
		sum    int
		lowest []int
	}{
		{[]int{2, 1, 1}, 4, []int{2, 1, 1}},
		{[]int{4, 2, 6}, 12, []int{2, 1, 3}},
		{[]int{0, 6, 0, 9}, 15, []int{0, 2, 0, 3}},
		{[]int{0, 5, 0}, 5, []int{0, 1, 0}},
		{[]int{6, 10, 15}, 31, []int{6, 10, 15}},
		{[]int{most}, most, []int{1}},
		{[]int{most - 1, 1}, most, []int{most - 1, 1}},
		{[]int{most / 2, most / 2}, most, []int{1, 1}},
		{[]int{0, 0, 7}, 7, []int{0, 0, 1}},
	} {
		if n, e := odds.Total(c.w); n != c.sum || e != api.OK {
			t.Error("Total", c.w, n, e)
		}
		if l, e := odds.Lowest(c.w); !slices.Equal(l, c.lowest) || e != api.OK {
			t.Error("Lowest", c.w, l, e)
		}
	}
	if n, e := odds.Total(filled(api.MaxOutcomes, 3)); n != 3*api.MaxOutcomes || e != api.OK {
		t.Error("Total of the longest list", n, e)
	}
}

// P1.2: lists with the same chances.
func TestSame(t *testing.T) {
	for _, c := range []struct {
		a, b []int
		same bool
	}{
		{[]int{1, 2}, []int{1, 2}, true},
		{[]int{1, 2}, []int{2, 4}, true},
		{[]int{6, 0, 9}, []int{4, 0, 6}, true},
		{[]int{most}, []int{1}, true},
		{[]int{1, 2}, []int{2, 1}, false},
		{[]int{1, 1}, []int{1, 2}, false},
		{[]int{1, 1}, []int{1, 1, 0}, false},
		{[]int{1, 1, 0}, []int{1, 1}, false},
		{[]int{0, 1}, []int{1, 0}, false},
		{[]int{most - 1, 1}, []int{most - 2, 1}, false},
	} {
		if same, e := odds.Same(c.a, c.b); same != c.same || e != api.OK {
			t.Error(c.a, c.b, same, e)
		}
	}
}

// P1.3: the chance of some outcomes, and the weights given them.
func TestOfGiven(t *testing.T) {
	w := []int{2, 1, 1, 0, 6}
	for _, c := range []struct {
		outcomes []int
		of       api.Chance
		given    []int
		e, f     api.Errno
	}{
		{[]int{1, 2}, part(1, 5), []int{0, 1, 1, 0, 0}, api.OK, api.OK},
		{[]int{0, 4}, part(4, 5), []int{2, 0, 0, 0, 6}, api.OK, api.OK},
		{[]int{1, 3}, part(1, 10), []int{0, 1, 0, 0, 0}, api.OK, api.OK},
		{counted(5), part(1, 1), w, api.OK, api.OK},
		{nil, part(0, 1), nil, api.OK, api.ErrNone},
		{[]int{}, part(0, 1), nil, api.OK, api.ErrNone},
		{[]int{3}, part(0, 1), nil, api.OK, api.ErrNone},
		{[]int{1, 0}, part(0, 0), nil, api.ErrArg, api.ErrArg},
		{[]int{1, 1}, part(0, 0), nil, api.ErrArg, api.ErrArg},
		{[]int{3, 3}, part(0, 0), nil, api.ErrArg, api.ErrArg},
		{[]int{5}, part(0, 0), nil, api.ErrArg, api.ErrArg},
		{[]int{-1}, part(0, 0), nil, api.ErrArg, api.ErrArg},
		{[]int{-1, 0}, part(0, 0), nil, api.ErrArg, api.ErrArg},
		{[]int{math.MinInt, math.MaxInt}, part(0, 0), nil, api.ErrArg, api.ErrArg},
		{[]int{0, 1, 2, 3, 4, 5}, part(0, 0), nil, api.ErrArg, api.ErrArg},
		{[]int{0, 2, 1, 4}, part(0, 0), nil, api.ErrArg, api.ErrArg},
	} {
		if of, e := odds.Of(w, c.outcomes); of != c.of || e != c.e {
			t.Error("Of", c.outcomes, of, e)
		}
		if given, e := odds.Given(w, c.outcomes); !slices.Equal(given, c.given) || e != c.f {
			t.Error("Given", c.outcomes, given, e)
		}
	}
	if of, e := odds.Of([]int{1, most - 1}, []int{1}); of != part(most-1, most) || e != api.OK {
		t.Error("the greatest numbers", of, e)
	}
	if of, e := odds.Of(filled(api.MaxOutcomes, 1), counted(api.MaxOutcomes/2)); of != part(1, 2) || e != api.OK {
		t.Error("the longest list", of, e)
	}
}

// P1.4: outcomes that are mapped.
func TestMap(t *testing.T) {
	for i, c := range []struct {
		w, to []int
		n     int
		want  []int
		e     api.Errno
	}{
		{[]int{2, 1, 1, 5}, []int{1, 0, 1, 3}, 4, []int{1, 3, 0, 5}, api.OK},
		{[]int{2, 4}, []int{0, 0}, 1, []int{6}, api.OK},
		{[]int{2, 4}, []int{0, 1}, 2, []int{2, 4}, api.OK},
		{[]int{2, 4}, []int{2, 0}, 3, []int{4, 0, 2}, api.OK},
		{[]int{most - 1, 1}, []int{0, 0}, 1, []int{most}, api.OK},
		{[]int{7}, []int{api.MaxOutcomes - 1}, api.MaxOutcomes, append(filled(api.MaxOutcomes-1, 0), 7), api.OK},
		{[]int{1, 1}, []int{0, 0}, 0, nil, api.ErrRange},
		{[]int{1, 1}, []int{0, 0}, -1, nil, api.ErrRange},
		{[]int{1, 1}, []int{0, 0}, api.MaxOutcomes + 1, nil, api.ErrRange},
		{[]int{1, 1}, []int{0}, math.MaxInt, nil, api.ErrRange},
		{[]int{1, 1}, []int{0}, math.MinInt, nil, api.ErrRange},
		{[]int{1, 1}, nil, 1, nil, api.ErrArg},
		{[]int{1, 1}, []int{0}, 1, nil, api.ErrArg},
		{[]int{1, 1}, []int{0, 0, 0}, 1, nil, api.ErrArg},
		{[]int{1, 1}, []int{0, 2}, 2, nil, api.ErrArg},
		{[]int{1, 0}, []int{0, 2}, 2, nil, api.ErrArg},
		{[]int{1, 1}, []int{-1, 0}, 2, nil, api.ErrArg},
	} {
		if l, e := odds.Map(c.w, c.to, c.n); !slices.Equal(l, c.want) || e != c.e {
			t.Error(i, l, e)
		}
	}
}

// P1.5: values that are dealt to outcomes.
func TestPick(t *testing.T) {
	for _, c := range []struct {
		w        []int
		value, k int
		e        api.Errno
	}{
		{[]int{2, 1, 1}, 0, 0, api.OK}, {[]int{2, 1, 1}, 1, 0, api.OK}, {[]int{2, 1, 1}, 2, 1, api.OK}, {[]int{2, 1, 1}, 3, 2, api.OK},
		{[]int{0, 0, 1, 0, 1}, 0, 2, api.OK}, {[]int{0, 0, 1, 0, 1}, 1, 4, api.OK},
		{[]int{most - 1, 0, 1}, most - 2, 0, api.OK}, {[]int{most - 1, 0, 1}, most - 1, 2, api.OK},
		{[]int{2, 1, 1}, 4, 0, api.ErrRange}, {[]int{2, 1, 1}, -1, 0, api.ErrRange}, {[]int{2, 0}, 2, 0, api.ErrRange}, {[]int{0, 2}, -1, 0, api.ErrRange},
		{[]int{most}, most, 0, api.ErrRange}, {[]int{1}, math.MaxInt, 0, api.ErrRange}, {[]int{1}, math.MinInt, 0, api.ErrRange},
	} {
		if k, e := odds.Pick(c.w, c.value); k != c.k || e != c.e {
			t.Error(c.w, c.value, k, e)
		}
	}
}

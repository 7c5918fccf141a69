package habit_test

import (
	"math/big"
	"slices"
	"testing"

	"astragal/api"
	"astragal/habit"
)

// ranked returns the numbers of models in the document's words: the first one of the greatest chance, again and again.
func ranked(models []api.Model, l []int) []int {
	var ranks []int
	for range models {
		best := -1
		for k, m := range models {
			if !slices.Contains(ranks, k) && (best < 0 || likely(m, l).Cmp(likely(models[best], l)) > 0) {
				best = k
			}
		}
		ranks = append(ranks, best)
	}
	return ranks
}

// changed returns the least t for which a register has the greatest chance in the document's words, or -1.
func changed(a, b api.Model, l []int) int {
	at, best := -1, new(big.Rat)
	for t := range len(l) + 1 {
		if x := new(big.Rat).Mul(likely(a, l[:t]), likely(b, l[t:])); x.Cmp(best) > 0 {
			at, best = t, x
		}
	}
	return at
}

// believed returns a belief in the document's words.
func believed(before api.Chance, a, b api.Model, l []int) (api.Chance, api.Errno) {
	x, one := fractionOf(before), big.NewRat(1, 1)
	byA, byB := played(a, l), played(b, l)
	for k := range l {
		yes := new(big.Rat).Mul(x, byA[k])
		no := new(big.Rat).Mul(new(big.Rat).Sub(one, x), byB[k])
		all := new(big.Rat).Add(yes, no)
		if all.Sign() == 0 {
			return part(0, 0), api.ErrNone
		}
		if x = yes.Quo(yes, all); isOver(x, api.MaxBelief) {
			return part(0, 0), api.ErrOver
		}
	}
	return chanceOf(x), api.OK
}

// P9.4: the chapter's example 1, and others.
func TestCompare(t *testing.T) {
	even := append(filled(200, 0), filled(200, 1)...)
	for i, c := range []struct {
		a, b api.Model
		l    []int
		n    int
	}{
		{steady(1, 1), steady(3, 1), []int{0, 0, 1}, -1},
		{steady(1, 1), steady(3, 1), []int{0, 1, 1}, 1},
		{steady(1, 1), steady(3, 1), nil, 0},
		{steady(1, 1), steady(7, 7), []int{0, 1, 1}, 0},
		{steady(1, 1), steady(501, 500), even, 1},
		{steady(500, 501), steady(501, 500), even, 0},
		{steady(500, 501), steady(501, 500), even[:399], -1},
		{steady(999, 998), steady(998, 997), filled(400, 0), -1},
		{steady(1000, 999), steady(1000, 998), filled(400, 0), -1},
		{steady(2, 1), stacked(1, 2, 1), []int{0, 0, 1}, 0},
		{steady(2, 1), stacked(3, 2, 1), []int{0, 0, 1}, -1},
		{steady(1, 0), steady(0, 1), []int{0, 1}, 0},
		{steady(1, 0), stacked(3, 2, 1), []int{1, 1, 0, 0}, 0},
		{steady(1, 999), stacked(3, 2, 1), []int{1, 1, 0, 0}, 1},
		{habitual([]int{1, 1}, []int{9, 1}, []int{1, 9}), steady(1, 1), even, 1},
		{habitual([]int{1, 1}, []int{9, 1}, []int{1, 9}), steady(1, 1), slices.Repeat([]int{0, 1}, 200), -1},
	} {
		if n, e := habit.Compare(c.a, c.b, c.l); n != c.n || e != api.OK {
			t.Error(i, n, e)
		}
		if n, e := habit.Compare(c.b, c.a, c.l); n != -c.n || e != api.OK {
			t.Error(i, "exchanged", n, e)
		}
	}
}

// P9.4: the order of models, equal ones by their numbers, and the errors of Rank.
func TestRank(t *testing.T) {
	even := append(filled(200, 0), filled(200, 1)...)
	for i, c := range []struct {
		models []api.Model
		l, to  []int
	}{
		{nil, nil, nil}, {nil, []int{7, -1}, nil}, {nil, filled(400, -5), nil},
		{[]api.Model{steady(3)}, []int{0}, []int{0}},
		{slices.Repeat([]api.Model{steady(3, 1)}, 20), []int{0, 1}, []int{0, 1, 2, 3, 4, 5, 6, 7, 8, 9, 10, 11, 12, 13, 14, 15, 16, 17, 18, 19}},
		{[]api.Model{steady(1, 1), steady(3, 1)}, []int{0, 0, 1}, []int{1, 0}},
		{[]api.Model{steady(1, 1), steady(3, 1)}, nil, []int{0, 1}},
		{[]api.Model{steady(1, 0), steady(501, 500), steady(1, 1), steady(2, 2), steady(2, 1), steady(0, 1)}, even, []int{2, 3, 1, 4, 0, 5}},
	} {
		if l, e := habit.Rank(c.models, c.l); !slices.Equal(l, c.to) || e != api.OK {
			t.Error(i, l, e)
		}
	}
	long := filled(401, 0)
	for i, c := range []struct {
		models []api.Model
		l      []int
		e      api.Errno
	}{
		{nil, long, api.ErrLong},
		{make([]api.Model, 21), long, api.ErrLong},
		{slices.Repeat([]api.Model{steady(1)}, 21), nil, api.ErrLong},
		{slices.Repeat([]api.Model{steady(1)}, 20), []int{1}, api.ErrArg},
		{append(slices.Repeat([]api.Model{steady(1)}, 19), steady(0)), long, api.ErrArg},
		{append(slices.Repeat([]api.Model{steady(1)}, 19), steady(1, 1)), long, api.ErrArg},
		{slices.Repeat([]api.Model{steady(1)}, 20), long, api.ErrLong},
	} {
		if l, e := habit.Rank(c.models, c.l); len(l) != 0 || e != c.e {
			t.Error(i, l, e)
		}
	}
}

// P9.4, P9.6: all small registers by some models, and greater ones by many, as in the document's words.
func TestWeighed(t *testing.T) {
	same := func(models []api.Model, l []int) {
		t.Helper()
		if ranks, e := habit.Rank(models, l); !slices.Equal(ranks, ranked(models, l)) || e != api.OK {
			t.Fatal(models, l, ranks, e)
		}
		for _, a := range models {
			for _, b := range models {
				if n, e := habit.Compare(a, b, l); n != likely(a, l).Cmp(likely(b, l)) || e != api.OK {
					t.Fatal(a, b, l, n, e)
				}
				n, e := habit.Change(a, b, l)
				want := changed(a, b, l)
				if want < 0 && (n != 0 || e != api.ErrNone) || want >= 0 && (n != want || e != api.OK) {
					t.Fatal(a, b, l, n, e, want)
				}
			}
		}
	}
	for l := range small(2, 4) {
		same(twos(), l)
	}
	for l := range small(3, 3) {
		same(threes(), l)
	}
	next := noise(2)
	for range 300 {
		outcomes := 1 + next(4)
		var models []api.Model
		for range 1 + next(4) {
			models = append(models, someModel(next, outcomes, 1+next(5)))
		}
		same(models, someRegister(next, outcomes, next(25)))
	}
	long := []api.Model{steady(filled(32, 7)...), habitual(slices.Repeat([][]int{append(filled(31, 999), 1000)}, 33)...), stacked(400, append([]int{1000}, filled(31, 500)...)...)}
	same(long, someRegister(next, 32, 100))
}

// P9.5: the chapter's example 4, beliefs at their limits, and the errors in their order.
func TestBelief(t *testing.T) {
	long := filled(401, 0)
	deck := stacked(3, 2, 1)
	for i, c := range []struct {
		before api.Chance
		a, b   api.Model
		l      []int
		want   api.Chance
		e      api.Errno
	}{
		{part(1, 2), steady(3, 1), steady(1, 1), []int{0}, part(3, 5), api.OK},
		{part(1, 2), steady(3, 1), steady(1, 1), []int{0, 0}, part(9, 13), api.OK},
		{part(1, 2), steady(3, 1), steady(1, 1), []int{0, 1}, part(3, 7), api.OK},
		{part(1, 100), steady(3, 1), steady(1, 1), nil, part(1, 100), api.OK},
		{part(0, 1), steady(3, 1), steady(1, 1), filled(400, 0), part(0, 1), api.OK},
		{part(1, 1), steady(3, 1), steady(1, 1), filled(400, 0), part(1, 1), api.OK},
		{part(1, 2), steady(7, 7), steady(1, 1), filled(400, 0), part(1, 2), api.OK},
		{part(1, 2), steady(3, 1), steady(0, 1), []int{0, 1}, part(1, 1), api.OK},
		{part(1, 2), steady(0, 1), steady(3, 1), []int{0, 1}, part(0, 1), api.OK},
		// Behind what a deck excludes its casts have chances above 1.
		{part(1, 2), deck, steady(1, 1), []int{1, 1, 0, 0}, part(0, 1), api.OK},
		{part(1, 2), steady(1, 1), deck, []int{1, 1, 0, 0}, part(1, 1), api.OK},
		{part(1, 2), deck, deck, []int{1, 1}, part(0, 0), api.ErrNone},
		{part(1, 2), steady(1, 0), steady(0, 1), []int{0, 1}, part(0, 0), api.ErrNone},
		{part(0, 1), steady(3, 1), steady(0, 1), []int{0}, part(0, 0), api.ErrNone},
		{part(1, 1), steady(0, 1), steady(3, 1), []int{0}, part(0, 0), api.ErrNone},
		{part(1, 2), steady(0, 1), steady(0, 1), []int{0}, part(0, 0), api.ErrNone},
		{part(1, api.MaxBelief), steady(3, 1), steady(1, 1), nil, part(1, api.MaxBelief), api.OK},
		{part(1, api.MaxBelief), steady(1, 1), steady(2, 2), []int{0, 1}, part(1, api.MaxBelief), api.OK},
		{part(1, api.MaxBelief), steady(3, 1), steady(1, 1), []int{0}, part(1, 666666667), api.OK},
		{part(api.MaxBelief-1, api.MaxBelief), steady(3, 1), steady(1, 1), []int{0}, part(0, 0), api.ErrOver},
		{part(1, 2), steady(1, 999), steady(1000, 0), []int{0}, part(1, 1001), api.OK},
		{part(1, 1000000), steady(1, 999), steady(1000, 0), []int{0}, part(1, 999999001), api.OK},
		{part(1, 1000001), steady(1, 999), steady(1000, 0), []int{0}, part(0, 0), api.ErrOver},
		// Of two errors that of the first cast counts.
		{part(api.MaxBelief-1, api.MaxBelief), steady(3, 1, 0), steady(1, 1, 0), []int{0, 2}, part(0, 0), api.ErrOver},
		{part(api.MaxBelief-1, api.MaxBelief), steady(3, 1, 0), steady(1, 1, 0), []int{2, 0}, part(0, 0), api.ErrNone},
		{part(0, 0), steady(0), steady(0), long, part(0, 0), api.ErrArg},
		{part(2, 4), steady(3, 1), steady(1, 1), nil, part(0, 0), api.ErrArg},
		{part(0, 2), steady(3, 1), steady(1, 1), nil, part(0, 0), api.ErrArg},
		{part(3, 2), steady(3, 1), steady(1, 1), nil, part(0, 0), api.ErrArg},
		{part(-1, 2), steady(3, 1), steady(1, 1), nil, part(0, 0), api.ErrArg},
		{part(1, -2), steady(3, 1), steady(1, 1), nil, part(0, 0), api.ErrArg},
		{part(1, 0), steady(3, 1), steady(1, 1), nil, part(0, 0), api.ErrArg},
		{part(1, api.MaxNumber+1), steady(3, 1), steady(1, 1), nil, part(0, 0), api.ErrArg},
		{part(2, api.MaxBelief+2), steady(3, 1), steady(1, 1), nil, part(0, 0), api.ErrArg},
		{part(1, api.MaxBelief+1), steady(0), steady(0), long, part(0, 0), api.ErrRange},
		{part(1, api.MaxNumber), steady(3, 1), steady(1, 1), nil, part(0, 0), api.ErrRange},
		{part(1, 2), steady(0, 1), steady(0, 1), long, part(0, 0), api.ErrLong},
		{part(1, 2), steady(0, 1), steady(0, 1), []int{0, 2}, part(0, 0), api.ErrArg},
	} {
		if x, e := habit.Belief(c.before, c.a, c.b, c.l); x != c.want || e != c.e {
			t.Error(i, x, e)
		}
	}
}

// P9.5: many beliefs as in the document's words.
func TestBeliefs(t *testing.T) {
	same := func(x api.Chance, a, b api.Model, l []int) {
		t.Helper()
		want, f := believed(x, a, b, l)
		if y, e := habit.Belief(x, a, b, l); y != want || e != f {
			t.Fatal(x, a, b, l, y, e, want, f)
		}
	}
	for _, a := range twos() {
		for _, b := range twos() {
			for l := range small(2, 5) {
				for _, x := range []api.Chance{part(0, 1), part(1, 1), part(2, 7)} {
					same(x, a, b, l)
				}
			}
		}
	}
	next := noise(3)
	for range 20000 {
		outcomes := 1 + next(3)
		den := 1 + next(api.MaxBelief-1)
		x := chanceOf(big.NewRat(int64(next(den)), int64(den)))
		weight := []int{1, 2, 9, 1000}[next(3)]
		same(x, someModel(next, outcomes, weight), someModel(next, outcomes, weight), someRegister(next, outcomes, next(12)))
	}
	// The greatest numbers that meet: no sum overflows.
	most, least := filled(32, 1000), append(filled(31, 1000), 999)
	for _, x := range []api.Chance{part(1, api.MaxBelief), part(api.MaxBelief-1, api.MaxBelief), part(499999999, api.MaxBelief)} {
		for l := range small(32, 1) {
			same(x, steady(most...), steady(least...), l)
			same(x, steady(least...), stacked(31999, least...), append(l, l...))
		}
	}
}

// P9.6: the chapter's example 5, and others.
func TestChange(t *testing.T) {
	for i, c := range []struct {
		a, b api.Model
		l    []int
		t    int
		e    api.Errno
	}{
		{steady(1, 0), steady(0, 1), []int{0, 0, 1, 1}, 2, api.OK},
		{steady(1, 0), steady(0, 1), []int{0, 1, 0}, 0, api.ErrNone},
		{steady(1, 0), steady(0, 1), []int{0}, 1, api.OK},
		{steady(1, 0), steady(0, 1), []int{1}, 0, api.OK},
		{steady(1, 1), steady(1, 1), nil, 0, api.OK},
		{steady(0, 1), steady(0, 1), nil, 0, api.OK},
		{steady(1, 1), steady(2, 2), []int{0, 1, 1}, 0, api.OK},
		{steady(3, 1), steady(1, 1), filled(400, 0), 400, api.OK},
		{steady(1, 1), steady(3, 1), filled(400, 0), 0, api.OK},
		{steady(3, 1), steady(1, 3), []int{0, 0, 1, 0, 1, 1}, 2, api.OK},
		{steady(3, 1), steady(1, 3), append(filled(201, 0), filled(199, 1)...), 201, api.OK},
		// The register of the second model begins at the change: with its first row, with a full deck.
		{steady(1, 1), habitual([]int{9, 1}, []int{1, 1}, []int{1, 1}), []int{1, 0, 1}, 1, api.OK},
		{steady(1, 1), stacked(3, 2, 1), []int{1, 1, 0, 0, 1}, 2, api.OK},
		{stacked(2, 1, 1), stacked(2, 1, 1), []int{0, 0, 1}, 1, api.OK},
		// Behind what the first model excludes nothing counts.
		{stacked(4, 3, 1), steady(9, 1), []int{1, 1, 0, 0}, 1, api.OK},
		{stacked(4, 3, 1), steady(0, 1), []int{1, 1, 0, 0}, 0, api.ErrNone},
		{stacked(4, 3, 1), steady(1, 0), []int{1, 1, 0, 0}, 0, api.ErrNone},
	} {
		if n, e := habit.Change(c.a, c.b, c.l); n != c.t || e != c.e {
			t.Error(i, n, e)
		}
	}
}

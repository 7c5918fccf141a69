package habit_test

import (
	"slices"
	"testing"

	"astragal/api"
	"astragal/habit"
)

// badModels returns models that are not valid.
func badModels() []api.Model {
	l := []api.Model{
		{}, {Rows: [][]int{{1}}}, {Kind: api.Steady}, {Kind: api.Habitual}, {Kind: api.Stacked}, {Kind: api.Stacked, After: 1},
		{Kind: api.Steady, Rows: [][]int{}}, {Kind: api.Habitual, Rows: [][]int{nil}}, {Kind: api.Stacked, Rows: [][]int{{}}, After: 1},
		steady(), steady(0), steady(0, 0, 0), steady(-1, 2), steady(2, -1), steady(1, 1001), steady(1001), steady(filled(32, 0)...), steady(filled(33, 1)...),
		{Kind: api.Steady, Rows: [][]int{{1, 1}, {1, 1}}}, {Kind: api.Steady, Rows: [][]int{{1, 1}, {1, 1}, {1, 1}}}, {Kind: api.Steady, Rows: [][]int{{1, 1}}, After: 1}, {Kind: api.Steady, Rows: [][]int{{1, 1}}, After: -1},
		habitual([]int{1}), habitual([]int{1, 1}), habitual([]int{1, 1}, []int{1, 1}), habitual([]int{1, 1}, []int{1, 1}, []int{1, 1}, []int{1, 1}),
		habitual([]int{1, 1}, []int{1}, []int{1, 1}), habitual([]int{1, 1}, []int{1, 1, 1}, []int{1, 1}), habitual([]int{1, 1}, []int{1, 1}, nil), habitual([]int{1}, []int{1, 1}), habitual([]int{1, 1}, []int{1}),
		habitual([]int{1, 1}, []int{1, 1}, []int{0, 0}), habitual([]int{0, 0}, []int{1, 1}, []int{1, 1}), habitual([]int{1, 1}, []int{1001, 1}, []int{1, 1}), habitual([]int{1, 1}, []int{1, 1}, []int{1, -1}),
		habitual(slices.Repeat([][]int{filled(33, 1)}, 34)...), habitual(nil), habitual(nil, nil),
		{Kind: api.Habitual, Rows: [][]int{{1}, {1}}, After: 1}, {Kind: api.Habitual, Rows: [][]int{{1}, {1}}, After: -1},
		stacked(0, 2, 1), stacked(-1, 2, 1), stacked(4, 2, 1), stacked(1, 0, 0), stacked(1, 1001), stacked(1, -1, 3), stacked(1, filled(33, 1)...), {Kind: api.Stacked, Rows: [][]int{{2, 1}, {2, 1}}, After: 1}, {Kind: api.Stacked, Rows: [][]int{{1}, {1}}, After: 1},
		{Kind: 0, Rows: [][]int{{1, 1}}}, {Kind: 4, Rows: [][]int{{1, 1}}}, {Kind: -1, Rows: [][]int{{1, 1}}}, {Kind: 4, Rows: [][]int{{1, 1}}, After: 1},
	}
	for _, n := range extremes() {
		l = append(l, api.Model{Kind: api.ModelKind(n), Rows: [][]int{{1, 1}}}, steady(n), steady(n, n), steady(n, 1), steady(1, n), stacked(n, 1000, 999), habitual([]int{1}, []int{n}), api.Model{Kind: api.Steady, Rows: [][]int{{1}}, After: n})
	}
	return l
}

// P9.1: models at the limits of the document are valid.
func TestCheck(t *testing.T) {
	l := slices.Concat(twos(), threes(), []api.Model{
		steady(1), steady(1000), steady(filled(32, 1000)...), steady(append(filled(31, 0), 1)...), steady(1, 0, 0),
		habitual([]int{1}, []int{1000}), habitual(slices.Repeat([][]int{filled(32, 1000)}, 33)...), habitual([]int{1, 0}, []int{0, 1}, []int{1, 0}),
		stacked(1, 1), stacked(1000, 1000), stacked(1, 0, 1000), stacked(32000, filled(32, 1000)...), stacked(401, 500),
	})
	for _, m := range l {
		if e := habit.Check(m); e != api.OK {
			t.Error(m, e)
		}
	}
	for _, m := range badModels() {
		if e := habit.Check(m); e != api.ErrArg {
			t.Error(m, e)
		}
	}
}

// errs checks that all functions with two models have an error, and those with one if it does not come from the models together.
func errs(t *testing.T, a, b api.Model, l []int, want api.Errno, alone bool) {
	t.Helper()
	before := part(1, 2)
	n, e := habit.Compare(a, b, l)
	x, f := habit.Belief(before, a, b, l)
	c, g := habit.Change(a, b, l)
	r, h := habit.Rank([]api.Model{a, b}, l)
	if !zero(n, x, c, r) || e != want || f != want || g != want || h != want {
		t.Error(a, b, len(l), want, n, e, x, f, c, g, r, h)
	}
	if !alone {
		return
	}
	x, e = habit.Step(a, l, -1)
	y, f := habit.Chance(a, l)
	n, g = habit.Excluded(a, l)
	if !zero(x, y, n) || e != want || f != want || g != want {
		t.Error(a, len(l), want, x, e, y, f, n, g)
	}
}

// P9.1: the errors of functions with models, in their order.
func TestErrors(t *testing.T) {
	long, other := filled(401, 0), []int{0, 2}
	for _, bad := range badModels() {
		for _, l := range [][]int{nil, {0}, {-1}, long} {
			errs(t, bad, steady(1, 1), l, api.ErrArg, true)
			errs(t, steady(1, 1), bad, l, api.ErrArg, false)
		}
	}
	for _, m := range twos() {
		errs(t, m, m, long, api.ErrLong, true)
		errs(t, m, m, filled(401, 7), api.ErrLong, true)
		errs(t, m, m, other, api.ErrArg, true)
		errs(t, m, m, filled(400, 2), api.ErrArg, true)
		errs(t, m, m, []int{-1}, api.ErrArg, true)
		for _, n := range extremes() {
			errs(t, m, m, []int{0, n, 1}, api.ErrArg, true)
		}
		for _, three := range append(threes(), steady(1)) {
			errs(t, m, three, nil, api.ErrArg, false)
			errs(t, three, m, []int{0}, api.ErrArg, false)
			errs(t, m, three, long, api.ErrArg, false)
		}
	}
}

// P9.2: Step has ErrRange just for numbers of no cast, and only where nothing else is wrong.
func TestNoCast(t *testing.T) {
	for _, l := range [][]int{nil, {}, {0}, {0, 1, 1}, filled(400, 1)} {
		for _, n := range append(extremes(), len(l), len(l)+1) {
			if x, e := habit.Step(steady(1, 1), l, n); x != part(0, 0) || e != api.ErrRange {
				t.Error(len(l), n, x, e)
			}
		}
		for n := range l {
			if x, e := habit.Step(steady(1, 1), l, n); x != part(1, 2) || e != api.OK {
				t.Error(len(l), n, x, e)
			}
		}
	}
}

// P9.2, P9.3: the chapter's examples 1 to 3, and others whose chances are written out.
func TestExamples(t *testing.T) {
	for i, c := range []struct {
		m        api.Model
		l        []int
		steps    []api.Chance
		all      api.Chance
		excluded int
	}{
		{steady(1, 1), []int{0, 0, 1}, []api.Chance{part(1, 2), part(1, 2), part(1, 2)}, part(1, 8), -1},
		{steady(3, 1), []int{0, 0, 1}, []api.Chance{part(3, 4), part(3, 4), part(1, 4)}, part(9, 64), -1},
		{habitual([]int{1, 1}, []int{1, 3}, []int{1, 1}), []int{0, 1, 1}, []api.Chance{part(1, 2), part(3, 4), part(1, 2)}, part(3, 16), -1},
		{stacked(2, 2, 1), []int{0, 0, 0}, []api.Chance{part(2, 3), part(1, 2), part(2, 3)}, part(2, 9), -1},
		{stacked(2, 2, 1), []int{1, 1}, []api.Chance{part(1, 3), part(0, 1)}, part(0, 1), 1},
		{stacked(3, 2, 1), []int{1, 1, 0}, []api.Chance{part(1, 3), part(0, 1), part(2, 1)}, part(0, 1), 1},
		{stacked(4, 3, 1), []int{1, 1, 0, 0}, []api.Chance{part(1, 4), part(0, 1), part(3, 2), part(2, 1)}, part(0, 1), 1},
		{stacked(4, 1, 3), []int{0, 0, 0, 0, 0}, []api.Chance{part(1, 4), part(0, 1), part(0, 1), part(0, 1), part(1, 4)}, part(0, 1), 1},
		{stacked(1, 1, 1), []int{0, 0, 0}, []api.Chance{part(1, 2), part(1, 2), part(1, 2)}, part(1, 8), -1},
		{steady(4, 0, 2), []int{0, 2, 1, 0}, []api.Chance{part(2, 3), part(1, 3), part(0, 1), part(2, 3)}, part(0, 1), 2},
		{steady(7), []int{0, 0}, []api.Chance{part(1, 1), part(1, 1)}, part(1, 1), -1},
		{steady(0, 1), []int{0}, []api.Chance{part(0, 1)}, part(0, 1), 0},
		{steady(0, 1), nil, nil, part(1, 1), -1},
	} {
		for k, want := range c.steps {
			if x, e := habit.Step(c.m, c.l, k); x != want || e != api.OK {
				t.Error(i, k, x, e)
			}
		}
		if x, e := habit.Chance(c.m, c.l); x != c.all || e != api.OK {
			t.Error(i, x, e)
		}
		if n, e := habit.Excluded(c.m, c.l); n != c.excluded || e != api.OK {
			t.Error(i, n, e)
		}
	}
}

// same compares what is said of a register with the document's words.
func same(t *testing.T, m api.Model, l []int) {
	t.Helper()
	chances, first := played(m, l), -1
	for k, want := range chances {
		x, e := habit.Step(m, l, k)
		if x != chanceOf(want) || e != api.OK {
			t.Fatal(m, l, k, x, e)
		}
		if want.Sign() == 0 && first < 0 {
			first = k
		}
	}
	if n, e := habit.Excluded(m, l); n != first || e != api.OK {
		t.Fatal(m, l, n, e)
	}
	want, e := part(0, 0), api.OK
	for n := range len(l) + 1 {
		x := multiplied(chances[:n])
		if isOver(x, api.MaxNumber) {
			want, e = part(0, 0), api.ErrOver
			break
		}
		want = chanceOf(x)
	}
	if x, f := habit.Chance(m, l); x != want || f != e {
		t.Fatal(m, l, x, f, want, e)
	}
}

// P9.2, P9.3: all small registers by some models, and greater ones by many, as in the document's words.
func TestRegisters(t *testing.T) {
	for _, m := range twos() {
		for l := range small(2, 8) {
			same(t, m, l)
		}
	}
	for _, m := range threes() {
		for l := range small(3, 6) {
			same(t, m, l)
		}
	}
	next := noise(1)
	for range 3000 {
		outcomes := 1 + next(5)
		same(t, someModel(next, outcomes, 1+next(12)), someRegister(next, outcomes, next(30)))
	}
	for range 20 {
		same(t, someModel(next, 32, 1000), someRegister(next, 32, 40))
		same(t, stacked(1+next(600), filled(32, 20)...), someRegister(next, 32, 400))
	}
}

// P9.3: the greatest Den is MaxNumber; also that of the first casts alone may not be above it, unless a chance of 0 comes first.
func TestOver(t *testing.T) {
	ten := steady(1, 9)
	// 1 behind 1 has the chance 10/27, which makes a Den smaller that casts of 0 made greater.
	falling := habitual([]int{9, 1}, []int{9, 1}, []int{17, 10})
	for i, c := range []struct {
		m    api.Model
		l    []int
		want api.Chance
		e    api.Errno
	}{
		{ten, filled(15, 0), part(1, api.MaxNumber), api.OK},
		{ten, filled(16, 0), part(0, 0), api.ErrOver},
		{steady(1, 1), filled(49, 0), part(1, 1<<49), api.OK},
		{steady(1, 1), filled(50, 0), part(0, 0), api.ErrOver},
		{steady(1, 1, 0), append(filled(49, 0), 2), part(0, 1), api.OK},
		{steady(1, 1, 0), append(filled(50, 0), 2), part(0, 0), api.ErrOver},
		{steady(1, 1, 0), append([]int{2}, filled(399, 0)...), part(0, 1), api.OK},
		{steady(1, 1, 0), append(filled(9, 0), filled(391, 2)...), part(0, 1), api.OK},
		{steady(5), filled(400, 0), part(1, 1), api.OK},
		{stacked(400, 401), filled(400, 0), part(1, 1), api.OK},
		{stacked(20, 10, 10), slices.Repeat([]int{0, 1}, 10), part(1, 184756), api.OK},
		{falling, append(filled(14, 0), 1), part(22876792454961, api.MaxNumber), api.OK},
		{falling, append(filled(14, 0), 1, 1), part(847288609443, 100000000000000), api.OK},
		{falling, append(filled(15, 0), 1, 1), part(0, 0), api.ErrOver},
		{falling, append(filled(15, 0), 1, 1, 1, 1), part(0, 0), api.ErrOver},
	} {
		if x, e := habit.Chance(c.m, c.l); x != c.want || e != c.e {
			t.Error(i, x, e)
		}
	}
	if x := likely(falling, append(filled(15, 0), 1, 1)); isOver(x, api.MaxNumber) {
		t.Error("the whole register is over, too", x)
	}
}

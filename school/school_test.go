package school_test

import (
	"math"
	"slices"
	"testing"

	"astragal/api"
	"astragal/school"
)

// P6.1: schools at the limits of the document are valid.
func TestCheck(t *testing.T) {
	for i, s := range []api.School{
		example(),
		{Places: 1, Signs: 1, Kinds: 1, Answers: 1},
		{Places: 6, Signs: 1, Kinds: 4, Answers: 20, Rules: []api.SchoolRule{}},
		{Places: 1, Signs: 64, Kinds: 1, Answers: 1},
		{Places: 2, Signs: 64, Kinds: 1, Answers: 1},
		{Places: 3, Signs: 16, Kinds: 1, Answers: 1},
		{Places: 4, Signs: 8, Kinds: 1, Answers: 1},
		{Places: 5, Signs: 5, Kinds: 1, Answers: 1},
		{Places: 6, Signs: 4, Kinds: 1, Answers: 1},
		{Places: 1, Signs: 1, Kinds: 1, Answers: 1, Rules: make([]api.SchoolRule, 30)},
		ruled(api.SchoolRule{Kinds: 15, Rank: 100, Says: 19}),
		ruled(api.SchoolRule{Kinds: 0, Rank: -100}),
		ruled(api.SchoolRule{When: tests(in(0), in(1, 0, 63), same(0, 1), same(1, 0), other(0, 1), other(1, 0))}),
		ruled(api.SchoolRule{When: slices.Repeat(tests(in(1, 5)), 6)}),
		ruled(api.SchoolRule{When: []api.SchoolTest{{Kind: api.TestIn, Set: math.MaxUint64}}}),
		ruled(append(make([]api.SchoolRule, 5), api.SchoolRule{Unless: []int{0, 1, 2, 3, 4}})...),
		ruled(append(make([]api.SchoolRule, 29), api.SchoolRule{Unless: []int{0, 7, 28}})...),
	} {
		if e := school.Check(s); e != api.OK {
			t.Error(i, e)
		}
	}
}

// ruled returns a school of the greatest size that has some rules.
func ruled(rules ...api.SchoolRule) api.School {
	return api.School{Places: 2, Signs: 64, Kinds: 4, Answers: 20, Rules: rules}
}

// P6.1, and the first error of each function: no function takes a school that is not valid, whatever else is wrong.
func TestInvalidSchools(t *testing.T) {
	for why, s := range invalid {
		if e := school.Check(s); e != api.ErrArg {
			t.Error(why, e)
		}
		l, e := school.Chart(s, -1)
		n, f := school.Number(s, []int{5})
		if len(l) != 0 || e != api.ErrArg || n != 0 || f != api.ErrArg {
			t.Error(why, l, e, n, f)
		}
		x, e := school.Read(s, []int{5}, 9)
		c, f := school.Count(s, 9, nil)
		if x.Kind != 0 || len(x.Answers) != 0 || len(x.Rules) != 0 || e != api.ErrArg || c.Charts != 0 || len(c.Said) != 0 || f != api.ErrArg {
			t.Error(why, x, e, c, f)
		}
		claim, chart, e := school.Keeps(s, make([]api.SchoolClaim, 21))
		if claim != 0 || chart != 0 || e != api.ErrArg {
			t.Error(why, claim, chart, e)
		}
		a, e := school.Differ(s, example(), 0)
		b, f := school.Differ(api.School{Places: 1, Signs: 1, Kinds: 1, Answers: 1}, s, 9)
		if a != 0 || e != api.ErrArg || b != 0 || f != api.ErrArg {
			t.Error(why, a, e, b, f)
		}
		idle, e := school.Idle(s)
		least, f := school.Minimal(s)
		if len(idle) != 0 || e != api.ErrArg || len(least) != 0 || f != api.ErrArg {
			t.Error(why, idle, e, least, f)
		}
		chart, at, fault, e := school.Gloss(s, 9, make([]api.SchoolCase, 41))
		if chart != 0 || at != 0 || fault != 0 || e != api.ErrArg {
			t.Error(why, chart, at, fault, e)
		}
	}
}

// P6.1: charts are numbered in ascending order, from 0 on.
func TestCharts(t *testing.T) {
	for _, c := range [][2]int{{1, 1}, {6, 1}, {1, 64}, {2, 64}, {3, 16}, {6, 4}, {5, 5}, {2, 3}, {3, 7}, {4, 8}} {
		s := api.School{Places: c[0], Signs: c[1], Kinds: 1, Answers: 1}
		l := chartsOf(s)
		for n, chart := range l {
			m, e := school.Number(s, chart)
			got, f := school.Chart(s, n)
			if m != n || e != api.OK || !slices.Equal(got, chart) || f != api.OK {
				t.Fatal(c, n, chart, m, e, got, f)
			}
		}
		for _, n := range []int{-1, len(l), len(l) + 1, math.MinInt, math.MaxInt} {
			if got, e := school.Chart(s, n); len(got) != 0 || e != api.ErrRange {
				t.Error(c, n, got, e)
			}
		}
	}
}

// noCharts are lists that are no charts of the school E.
func noCharts() [][]int {
	l := [][]int{nil, {}, {0}, {0, 0, 0}, {2, 2, 2, 2}, {3, 0}, {0, 3}, {-1, 0}, {0, -1}}
	for _, n := range extremes() {
		l = append(l, []int{n, 0}, []int{0, n}, []int{n, n})
	}
	return l
}

// P6.1, P6.2: what is no chart of the school has no number and is not read, of whatever kind.
func TestNoCharts(t *testing.T) {
	for _, chart := range noCharts() {
		if n, e := school.Number(example(), chart); n != 0 || e != api.ErrForm {
			t.Error(chart, n, e)
		}
		for _, kind := range []int{0, 1, -1, math.MaxInt} {
			if x, e := school.Read(example(), chart, kind); x.Kind != 0 || len(x.Answers) != 0 || len(x.Rules) != 0 || e != api.ErrForm {
				t.Error(chart, kind, x, e)
			}
		}
	}
}

// P6.2: a reading of any chart, against the document's words.
func TestRead(t *testing.T) {
	next := noise(62)
	for range 1500 {
		s := noiseSchool(next, size{places: 3, signs: 4, kinds: 4, answers: 5, rules: 9, ranks: 5})
		for kind := range s.Kinds {
			for _, chart := range chartsOf(s) {
				x, e := school.Read(s, chart, kind)
				if want := readingOf(s, chart, kind); e != api.OK || !equal(x, want) {
					t.Fatal(s, chart, kind, x, e, want)
				}
			}
		}
	}
}

// P6.2: with the most rules, answers, kinds and figures, too.
func TestReadOfBigSchools(t *testing.T) {
	next := noise(63)
	for range 60 {
		s := noiseSchool(next, size{places: 2, signs: 64, kinds: 4, answers: 20, rules: 18, ranks: 201})
		for range 40 {
			chart, kind := []int{next(s.Signs - 1), next(s.Signs - 1)}[:s.Places], next(s.Kinds-1)
			x, e := school.Read(s, chart, kind)
			if want := readingOf(s, chart, kind); e != api.OK || !equal(x, want) {
				t.Fatal(s, chart, kind, x, e, want)
			}
		}
	}
	s := api.School{Places: 1, Signs: 64, Kinds: 4, Answers: 20}
	for i := range 30 {
		s.Rules = append(s.Rules, api.SchoolRule{When: tests(in(0, 63)), Kinds: 8, Rank: -100, Says: (i * 7) % 20})
	}
	x := ok(school.Read(s, []int{63}, 3))
	if len(x.Answers) != 20 || x.Answers[19] != 19 || len(x.Rules) != 30 || x.Rules[29] != 29 || x.Kind != api.ReadSplit {
		t.Error(x)
	}
	if x := ok(school.Read(s, []int{63}, 2)); x.Kind != api.ReadSilent {
		t.Error("another kind", x)
	}
	if x := ok(school.Read(s, []int{62}, 3)); x.Kind != api.ReadSilent {
		t.Error("another figure", x)
	}
}

// P6.2: what silences a rule is a rule that speaks itself, whatever its rank.
func TestUnless(t *testing.T) {
	low := api.SchoolRule{Kinds: 1, Rank: -100, Says: 0}
	high := api.SchoolRule{Kinds: 1, Rank: 100, Says: 1, Unless: []int{0}}
	last := api.SchoolRule{Kinds: 1, Rank: 50, Says: 2, Unless: []int{1}}
	none := low
	none.Kinds = 2
	fails := low
	fails.When = tests(in(0))
	for i, c := range []struct {
		rules []api.SchoolRule
		want  []int
	}{
		{[]api.SchoolRule{low}, []int{0}},
		{[]api.SchoolRule{low, high}, []int{0}},
		{[]api.SchoolRule{none, high}, []int{1}},
		{[]api.SchoolRule{fails, high}, []int{1}},
		{[]api.SchoolRule{low, high, last}, []int{2}},
		{[]api.SchoolRule{none, high, last}, []int{1}},
		{[]api.SchoolRule{fails, high, last}, []int{1}},
		{nil, nil},
		{[]api.SchoolRule{none}, nil},
		{[]api.SchoolRule{fails}, nil},
	} {
		s := api.School{Places: 1, Signs: 1, Kinds: 2, Answers: 3, Rules: c.rules}
		if x := ok(school.Read(s, []int{0}, 0)); !slices.Equal(x.Rules, c.want) {
			t.Error(i, x)
		}
	}
}

// P6.2: several rules that say the same thing do not split a chart; rules of a lower rank say nothing.
func TestAnswers(t *testing.T) {
	rule := func(rank, says int) api.SchoolRule { return api.SchoolRule{Kinds: 1, Rank: rank, Says: says} }
	for i, c := range []struct {
		rules          []api.SchoolRule
		kind           api.ReadKind
		answers, which []int
	}{
		{[]api.SchoolRule{rule(0, 3), rule(0, 3)}, api.ReadSaid, []int{3}, []int{0, 1}},
		{[]api.SchoolRule{rule(0, 3), rule(0, 1), rule(0, 3)}, api.ReadSplit, []int{1, 3}, []int{0, 1, 2}},
		{[]api.SchoolRule{rule(0, 3), rule(1, 1), rule(0, 2)}, api.ReadSaid, []int{1}, []int{1}},
		{[]api.SchoolRule{rule(-100, 3), rule(-99, 0), rule(-100, 2)}, api.ReadSaid, []int{0}, []int{1}},
		{[]api.SchoolRule{rule(-1, 2), rule(-1, 0), rule(-1, 1)}, api.ReadSplit, []int{0, 1, 2}, []int{0, 1, 2}},
		{[]api.SchoolRule{rule(100, 2), rule(99, 0), rule(100, 2)}, api.ReadSaid, []int{2}, []int{0, 2}},
	} {
		s := api.School{Places: 1, Signs: 1, Kinds: 1, Answers: 4, Rules: c.rules}
		x, e := school.Read(s, []int{0}, 0)
		if e != api.OK || x.Kind != c.kind || !slices.Equal(x.Answers, c.answers) || !slices.Equal(x.Rules, c.which) {
			t.Error(i, x, e)
		}
	}
}

// noKinds are kinds of questions that a school with so many kinds does not have.
func noKinds(kinds int) []int { return append(extremes(), -1, kinds, kinds+1, 64) }

// P6.2, P6.3, P6.5, P6.7: no kind of the school.
func TestNoKinds(t *testing.T) {
	for kinds := 1; kinds <= 4; kinds++ {
		s := example()
		s.Kinds = kinds
		for _, kind := range noKinds(kinds) {
			if x, e := school.Read(s, []int{0, 0}, kind); x.Kind != 0 || len(x.Answers) != 0 || len(x.Rules) != 0 || e != api.ErrNone {
				t.Error(kinds, kind, x, e)
			}
			for _, sets := range [][]uint64{everywhere(s), nil, {8, 8}} {
				if c, e := school.Count(s, kind, sets); c.Charts != 0 || len(c.Said) != 0 || e != api.ErrNone {
					t.Error(kinds, kind, c, e)
				}
				claims := []api.SchoolClaim{{Sets: everywhere(s), Total: true}, {Kind: kind, Sets: sets}}
				if claim, chart, e := school.Keeps(s, claims); claim != 0 || chart != 0 || e != api.ErrNone {
					t.Error(kinds, kind, claim, chart, e)
				}
			}
			if n, e := school.Differ(s, s, kind); n != 0 || e != api.ErrNone {
				t.Error(kinds, kind, n, e)
			}
			for _, cases := range [][]api.SchoolCase{nil, make([]api.SchoolCase, 41), {{Says: -1}}} {
				if chart, at, fault, e := school.Gloss(s, kind, cases); chart != 0 || at != 0 || fault != 0 || e != api.ErrNone {
					t.Error(kinds, kind, chart, at, fault, e)
				}
			}
		}
	}
}

// R4: no argument is changed, and no two results share memory.
func TestMemory(t *testing.T) {
	s, was := example(), example()
	calls := []func() []int{
		func() []int { return ok(school.Chart(s, 5)) },
		func() []int { return ok(school.Read(s, []int{0, 2}, 0)).Answers },
		func() []int { return ok(school.Read(s, []int{0, 2}, 0)).Rules },
		func() []int { return ok(school.Count(s, 0, []uint64{7, 7})).Said },
		func() []int { return ok(school.Minimal(s)) },
		func() []int { return ok(school.Idle(without(s, 0, 1))) },
	}
	for i, call := range calls {
		l := call()
		first := slices.Clone(l)
		for k := range l {
			l[k] = 99
		}
		if again := call(); !slices.Equal(again, first) || len(first) < 2 {
			t.Error(i, again, first)
		}
	}
	x := ok(school.Read(s, []int{0, 2}, 0))
	x.Answers[0], x.Answers[1] = 99, 99
	if !slices.Equal(x.Rules, []int{0, 2}) {
		t.Error(x)
	}
	chart, sets := []int{1, 2}, []uint64{5, 6}
	ok(school.Number(s, chart))
	ok(school.Count(s, 0, sets))
	ok(school.Differ(s, s, 0))
	claim, first, e := school.Keeps(s, []api.SchoolClaim{{Sets: sets, Total: true}})
	cases := []api.SchoolCase{{When: tests(in(0, 0)), Says: 1}}
	n, at, fault, f := school.Gloss(s, 0, cases)
	if claim != 0 || first != 7 || e != api.OK || n != 1 || at != 0 || fault != api.GlossWrong || f != api.OK {
		t.Error(claim, first, e, n, at, fault, f)
	}
	if !slices.Equal(chart, []int{1, 2}) || !slices.Equal(sets, []uint64{5, 6}) || !slices.Equal(cases[0].When, tests(in(0, 0))) {
		t.Error(chart, sets, cases)
	}
	unchanged(t, s, was)
}

// unchanged checks that a school is what it was.
func unchanged(t *testing.T, s, was api.School) {
	t.Helper()
	for i, r := range s.Rules {
		o := was.Rules[i]
		if !slices.Equal(r.When, o.When) || !slices.Equal(r.Unless, o.Unless) || r.Kinds != o.Kinds || r.Rank != o.Rank || r.Says != o.Says {
			t.Error(i, r, o)
		}
	}
	if len(s.Rules) != len(was.Rules) || s.Places != was.Places || s.Signs != was.Signs || s.Kinds != was.Kinds || s.Answers != was.Answers {
		t.Error(s, was)
	}
}

// R3: an empty list is the same as none.
func TestEmptyLists(t *testing.T) {
	s := example()
	for i := range s.Rules {
		s.Rules[i].When, s.Rules[i].Unless = []api.SchoolTest{}, []int{}
	}
	bare := example()
	for i := range bare.Rules {
		bare.Rules[i].When, bare.Rules[i].Unless = nil, nil
	}
	for _, chart := range chartsOf(s) {
		if x, y := ok(school.Read(s, chart, 0)), ok(school.Read(bare, chart, 0)); !equal(x, y) || !slices.Equal(x.Rules, []int{1}) {
			t.Error(chart, x, y)
		}
	}
}

// The first example of the chapter.
func TestExampleOfReadings(t *testing.T) {
	for _, c := range []struct {
		number         int
		chart          []int
		kind           api.ReadKind
		answers, rules []int
	}{
		{0, []int{0, 0}, api.ReadSaid, []int{1}, []int{1}},
		{7, []int{2, 1}, api.ReadSilent, nil, nil},
		{2, []int{0, 2}, api.ReadSplit, []int{0, 2}, []int{0, 2}},
		{6, []int{2, 0}, api.ReadSilent, nil, nil},
		{8, []int{2, 2}, api.ReadSaid, []int{1}, []int{1}},
	} {
		if n := ok(school.Number(example(), c.chart)); n != c.number {
			t.Error(c, n)
		}
		if chart := ok(school.Chart(example(), c.number)); !slices.Equal(chart, c.chart) {
			t.Error(c, chart)
		}
		if x := ok(school.Read(example(), c.chart, 0)); x.Kind != c.kind || !slices.Equal(x.Answers, c.answers) || !slices.Equal(x.Rules, c.rules) {
			t.Error(c, x)
		}
	}
}

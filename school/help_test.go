package school_test

import (
	"math"
	"slices"

	"astragal/api"
)

// ok returns the result of a call that has no error.
func ok[T any](x T, e api.Errno) T {
	if e != api.OK {
		panic(e)
	}
	return x
}

// noise returns numbers from 0 to most that follow no simple rule, and the same ones for the same seed.
func noise(seed uint64) func(most int) int {
	return func(most int) int {
		seed = seed*6364136223846793005 + 1442695040888963407
		return int((seed >> 16) % uint64(most+1))
	}
}

// tests returns a list of tests.
func tests(l ...api.SchoolTest) []api.SchoolTest { return l }

// in returns the test of whether the figure at a place is one of these.
func in(place int, figures ...int) api.SchoolTest {
	return api.SchoolTest{Kind: api.TestIn, Place: place, Set: set(figures...)}
}

// same returns the test of whether two places have the same figure.
func same(a, b int) api.SchoolTest {
	return api.SchoolTest{Kind: api.TestSame, Place: a, Other: b}
}

// other returns the test of whether two places have different figures.
func other(a, b int) api.SchoolTest {
	return api.SchoolTest{Kind: api.TestOther, Place: a, Other: b}
}

// set returns the set of these figures.
func set(figures ...int) uint64 {
	n := uint64(0)
	for _, f := range figures {
		n |= 1 << f
	}
	return n
}

// example returns the school E of the chapter's examples.
func example() api.School {
	return api.School{Places: 2, Signs: 3, Kinds: 1, Answers: 3, Rules: []api.SchoolRule{
		{When: tests(in(0, 0, 1)), Kinds: 1, Says: 0},
		{When: tests(same(0, 1)), Kinds: 1, Rank: 1, Says: 1},
		{When: tests(in(1, 2)), Kinds: 1, Says: 2, Unless: []int{1}},
	}}
}

// copied returns a school that shares no memory with another one.
func copied(s api.School) api.School {
	s.Rules = slices.Clone(s.Rules)
	for i, r := range s.Rules {
		s.Rules[i].When, s.Rules[i].Unless = slices.Clone(r.When), slices.Clone(r.Unless)
	}
	return s
}

// without returns a school without some rules.
func without(s api.School, rules ...int) api.School {
	s = copied(s)
	for _, r := range rules {
		s.Rules[r].Kinds = 0
	}
	return s
}

// chartsOf returns all charts of a school in ascending order.
func chartsOf(s api.School) [][]int {
	l := [][]int{{}}
	for range s.Places {
		var longer [][]int
		for _, chart := range l {
			for f := range s.Signs {
				longer = append(longer, append(slices.Clone(chart), f))
			}
		}
		l = longer
	}
	return l
}

// holds reports whether all tests hold for a chart, in the document's words.
func holds(tests []api.SchoolTest, chart []int) bool {
	for _, t := range tests {
		has := false
		switch t.Kind {
		case api.TestIn:
			has = t.Set&set(chart[t.Place]) != 0
		case api.TestSame:
			has = chart[t.Place] == chart[t.Other]
		case api.TestOther:
			has = chart[t.Place] != chart[t.Other]
		}
		if !has {
			return false
		}
	}
	return true
}

// speaks reports whether a rule of a school speaks, in the document's words.
func speaks(s api.School, number int, chart []int, kind int) bool {
	r := s.Rules[number]
	applies := r.Kinds&(1<<kind) != 0 && holds(r.When, chart)
	silenced := slices.ContainsFunc(r.Unless, func(o int) bool { return speaks(s, o, chart, kind) })
	return applies && !silenced
}

// readingOf returns how a chart is read, in the document's words.
func readingOf(s api.School, chart []int, kind int) api.SchoolReading {
	greatest := math.MinInt
	for i, r := range s.Rules {
		if speaks(s, i, chart, kind) {
			greatest = max(greatest, r.Rank)
		}
	}
	x := api.SchoolReading{}
	for i, r := range s.Rules {
		if r.Rank == greatest && speaks(s, i, chart, kind) {
			x.Rules = append(x.Rules, i)
			x.Answers = append(x.Answers, r.Says)
		}
	}
	slices.Sort(x.Answers)
	x.Answers = slices.Compact(x.Answers)
	switch len(x.Answers) {
	case 0:
		x.Kind = api.ReadSilent
	case 1:
		x.Kind = api.ReadSaid
	default:
		x.Kind = api.ReadSplit
	}
	return x
}

// equal reports whether two readings are the same, that of the rules included.
func equal(x, y api.SchoolReading) bool { return agree(x, y) && slices.Equal(x.Rules, y.Rules) }

// agree reports whether two readings have the same kind and answers.
func agree(x, y api.SchoolReading) bool {
	return x.Kind == y.Kind && slices.Equal(x.Answers, y.Answers)
}

// differing returns the number of the first chart that two schools read differently, or -1.
func differing(a, b api.School, kind int) int {
	for n, chart := range chartsOf(a) {
		if !agree(readingOf(a, chart, kind), readingOf(b, chart, kind)) {
			return n
		}
	}
	return -1
}

// readsAlike reports whether two schools read all charts alike, for each kind of questions.
func readsAlike(a, b api.School) bool {
	for kind := range a.Kinds {
		if differing(a, b, kind) != -1 {
			return false
		}
	}
	return true
}

// size is how big a school is that follows no rule: how much there may be of everything.
type size struct{ places, signs, kinds, answers, rules, ranks int }

// few is a size with which rules often meet.
func few() size { return size{places: 2, signs: 3, kinds: 2, answers: 3, rules: 7, ranks: 3} }

// noiseSchool returns a valid school that follows no rule.
func noiseSchool(next func(int) int, most size) api.School {
	s := api.School{Places: 1 + next(most.places-1), Signs: 1 + next(most.signs-1), Kinds: 1 + next(most.kinds-1), Answers: 1 + next(most.answers-1)}
	for i := range next(most.rules) {
		r := api.SchoolRule{When: noiseTests(next, s, 2), Kinds: next(1<<s.Kinds - 1), Rank: next(most.ranks-1) - most.ranks/2, Says: next(s.Answers - 1)}
		for o := range i {
			if next(4) == 0 && len(r.Unless) < api.MaxUnless {
				r.Unless = append(r.Unless, o)
			}
		}
		s.Rules = append(s.Rules, r)
	}
	return s
}

// noiseTests returns some valid tests of a school that follow no rule.
func noiseTests(next func(int) int, s api.School, most int) []api.SchoolTest {
	var l []api.SchoolTest
	for range next(most) {
		a, b := next(s.Places-1), next(s.Places-1)
		switch kind := next(3); {
		case kind == 0 && a != b:
			l = append(l, same(a, b))
		case kind == 1 && a != b:
			l = append(l, other(a, b))
		default:
			l = append(l, in(a, noiseFigures(next, s)...))
		}
	}
	return l
}

// noiseFigures returns some of the figures of a school.
func noiseFigures(next func(int) int, s api.School) []int {
	var l []int
	for f := range s.Signs {
		if next(1) == 0 {
			l = append(l, f)
		}
	}
	return l
}

// noiseRegion returns a region of a school that follows no rule.
func noiseRegion(next func(int) int, s api.School) []uint64 {
	var l []uint64
	for range s.Places {
		l = append(l, set(noiseFigures(next, s)...))
	}
	return l
}

// everywhere returns the region of all charts of a school.
func everywhere(s api.School) []uint64 {
	n := uint64(0)
	for f := range s.Signs {
		n |= 1 << f
	}
	return slices.Repeat([]uint64{n}, s.Places)
}

// lies reports whether a chart is in a region.
func lies(chart []int, sets []uint64) bool {
	for place, f := range chart {
		if sets[place]&set(f) == 0 {
			return false
		}
	}
	return true
}

// extremes are numbers that are too small or too great for everything.
func extremes() []int {
	return []int{math.MinInt, math.MinInt32, -1 << 16, -4097, -101, 101, 4097, 1 << 16, 1 << 32, math.MaxInt - 1, math.MaxInt}
}

// invalid yields schools that are invalid, each for one reason.
func invalid(yield func(why int, s api.School) bool) {
	why := 0
	broken := func(change func(s *api.School)) bool {
		s := example()
		change(&s)
		why++
		return yield(why-1, s)
	}
	for _, change := range breaks() {
		if !broken(change) {
			return
		}
	}
	for _, n := range extremes() {
		for _, field := range fields() {
			if !broken(func(s *api.School) { *field(s) = n }) {
				return
			}
		}
	}
}

// fields returns where the numbers of a school are that no number far away is allowed for.
func fields() []func(*api.School) *int {
	return []func(*api.School) *int{
		func(s *api.School) *int { return &s.Places },
		func(s *api.School) *int { return &s.Signs },
		func(s *api.School) *int { return &s.Kinds },
		func(s *api.School) *int { return &s.Answers },
		func(s *api.School) *int { return &s.Rules[0].Kinds },
		func(s *api.School) *int { return &s.Rules[1].Rank },
		func(s *api.School) *int { return &s.Rules[2].Unless[0] },
		func(s *api.School) *int { return &s.Rules[2].Says },
		func(s *api.School) *int { return &s.Rules[0].When[0].Place },
		func(s *api.School) *int { return &s.Rules[0].When[0].Other },
		func(s *api.School) *int { return &s.Rules[1].When[0].Place },
		func(s *api.School) *int { return &s.Rules[1].When[0].Other },
		func(s *api.School) *int { return (*int)(&s.Rules[1].When[0].Kind) },
	}
}

// breaks returns what makes the school E invalid, next to what is valid.
func breaks() []func(*api.School) {
	when := func(rule int, l ...api.SchoolTest) func(*api.School) {
		return func(s *api.School) { s.Rules[rule].When = l }
	}
	unless := func(rule int, l ...int) func(*api.School) {
		return func(s *api.School) { s.Rules[rule].Unless = l }
	}
	return []func(*api.School){
		func(s *api.School) { *s = api.School{} },
		func(s *api.School) { s.Places = 0 },
		func(s *api.School) { s.Places, s.Rules = 0, nil },
		func(s *api.School) { s.Places, s.Signs, s.Rules = 7, 1, nil },
		func(s *api.School) { s.Signs, s.Rules = 0, nil },
		func(s *api.School) { s.Places, s.Signs, s.Rules = 1, 65, nil },
		func(s *api.School) { s.Places, s.Signs = 2, 65 },
		func(s *api.School) { s.Places, s.Signs = 3, 17 },
		func(s *api.School) { s.Places, s.Signs = 4, 9 },
		func(s *api.School) { s.Places, s.Signs = 5, 6 },
		func(s *api.School) { s.Places, s.Signs = 6, 5 },
		func(s *api.School) { s.Places, s.Signs = 6, 64 },
		func(s *api.School) { s.Kinds, s.Rules = 0, nil },
		func(s *api.School) { s.Kinds = 5 },
		func(s *api.School) { s.Answers, s.Rules = 0, nil },
		func(s *api.School) { s.Answers = 21 },
		func(s *api.School) { s.Rules = make([]api.SchoolRule, 31) },
		func(s *api.School) { s.Rules[0].Kinds = -1 },
		func(s *api.School) { s.Rules[0].Kinds = 2 },
		func(s *api.School) { s.Kinds, s.Rules[2].Kinds = 4, 16 },
		func(s *api.School) { s.Rules[0].Rank = 101 },
		func(s *api.School) { s.Rules[2].Rank = -101 },
		func(s *api.School) { s.Rules[0].Says = -1 },
		func(s *api.School) { s.Rules[2].Says = 3 },
		func(s *api.School) { s.Answers = 2 },
		unless(0, 0), unless(0, -1), unless(0, 1), unless(1, 1), unless(2, 2), unless(2, 1, 0), unless(2, 1, 1), unless(2, -1, 0), unless(2, 0, 1, 2),
		func(s *api.School) {
			s.Rules = make([]api.SchoolRule, 9)
			s.Rules[8].Unless = []int{0, 1, 2, 3, 4, 5}
		},
		func(s *api.School) { s.Rules[0].When = slices.Repeat(tests(in(0, 1)), 7) },
		when(0, api.SchoolTest{}),
		when(0, api.SchoolTest{Kind: 4}),
		when(0, api.SchoolTest{Kind: -1}),
		when(0, in(-1, 0)), when(0, in(2, 0)), when(0, in(0, 3)), when(0, in(1, 63)), when(2, in(0, 1), in(1, 3)),
		when(0, api.SchoolTest{Kind: api.TestIn, Other: 1}),
		when(0, api.SchoolTest{Kind: api.TestIn, Other: -1}),
		when(1, same(0, 0)), when(1, same(1, 1)), when(1, same(0, 2)), when(1, same(2, 0)), when(1, same(-1, 0)), when(1, same(0, -1)),
		when(1, other(0, 0)), when(1, other(1, 1)), when(1, other(0, 2)), when(1, other(2, 0)), when(1, other(-1, 0)), when(1, other(0, -1)),
		when(1, api.SchoolTest{Kind: api.TestSame, Other: 1, Set: 1}),
		when(1, api.SchoolTest{Kind: api.TestOther, Other: 1, Set: 1}),
	}
}

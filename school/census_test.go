package school_test

import (
	"slices"
	"testing"

	"astragal/api"
	"astragal/school"
)

// counted returns the census of a region, found by reading all charts.
func counted(s api.School, kind int, sets []uint64) api.SchoolCensus {
	c := api.SchoolCensus{Said: make([]int, s.Answers)}
	for _, chart := range chartsOf(s) {
		if !lies(chart, sets) {
			continue
		}
		c.Charts++
		switch x := readingOf(s, chart, kind); x.Kind {
		case api.ReadSilent:
			c.Silent++
		case api.ReadSplit:
			c.Split++
		case api.ReadSaid:
			c.Said[x.Answers[0]]++
		}
	}
	return c
}

// sameCensus reports whether two censuses are the same.
func sameCensus(a, b api.SchoolCensus) bool {
	return a.Charts == b.Charts && a.Silent == b.Silent && a.Split == b.Split && slices.Equal(a.Said, b.Said)
}

// P6.3, P6.8: how charts of a region are read; the numbers add up.
func TestCount(t *testing.T) {
	next := noise(63)
	for range 1500 {
		s := noiseSchool(next, size{places: 3, signs: 4, kinds: 4, answers: 5, rules: 8, ranks: 3})
		for kind := range s.Kinds {
			sets := noiseRegion(next, s)
			c, e := school.Count(s, kind, sets)
			if want := counted(s, kind, sets); e != api.OK || !sameCensus(c, want) {
				t.Fatal(s, kind, sets, c, e, want)
			}
			sum := c.Silent + c.Split
			for _, n := range c.Said {
				sum += n
			}
			if sum != c.Charts {
				t.Error(s, kind, sets, c)
			}
		}
	}
}

// P6.3: regions of the greatest schools, with no chart and with all of them.
func TestCountOfBigSchools(t *testing.T) {
	s := api.School{Places: 2, Signs: 64, Kinds: 4, Answers: 20, Rules: []api.SchoolRule{
		{When: tests(in(0, 63)), Kinds: 8, Says: 19},
		{When: tests(in(1, 62, 63)), Kinds: 8, Says: 7},
	}}
	said := func(a, b int) []int {
		l := make([]int, 20)
		l[19], l[7] = a, b
		return l
	}
	for i, c := range []struct {
		kind int
		sets []uint64
		want api.SchoolCensus
	}{
		{3, everywhere(s), api.SchoolCensus{Charts: 4096, Silent: 63 * 62, Split: 2, Said: said(62, 126)}},
		{2, everywhere(s), api.SchoolCensus{Charts: 4096, Silent: 4096, Said: said(0, 0)}},
		{3, []uint64{0, 0}, api.SchoolCensus{Said: said(0, 0)}},
		{3, []uint64{set(63), everywhere(s)[0]}, api.SchoolCensus{Charts: 64, Split: 2, Said: said(62, 0)}},
		{3, []uint64{set(63), set(63)}, api.SchoolCensus{Charts: 1, Split: 1, Said: said(0, 0)}},
		{3, []uint64{everywhere(s)[0], 0}, api.SchoolCensus{Said: said(0, 0)}},
	} {
		if x, e := school.Count(s, c.kind, c.sets); e != api.OK || !sameCensus(x, c.want) {
			t.Error(i, x, e)
		}
	}
}

// noRegions are lists that are no regions of the school E.
func noRegions() [][]uint64 {
	return [][]uint64{nil, {}, {7}, {7, 7, 7}, {8, 7}, {7, 8}, {15, 7}, {7, 1 << 63}, {1<<64 - 1, 0}}
}

// P6.3, P6.4: what is no region.
func TestNoRegions(t *testing.T) {
	for _, sets := range noRegions() {
		if c, e := school.Count(example(), 0, sets); c.Charts != 0 || c.Silent != 0 || c.Split != 0 || len(c.Said) != 0 || e != api.ErrForm {
			t.Error(sets, c, e)
		}
		claims := []api.SchoolClaim{{Sets: []uint64{7, 7}, Total: true}, {Sets: sets}}
		if claim, chart, e := school.Keeps(example(), claims); claim != 0 || chart != 0 || e != api.ErrForm {
			t.Error(sets, claim, chart, e)
		}
	}
}

// broken returns the first claim that is not kept, and the chart, found by reading all charts.
func broken(s api.School, claims []api.SchoolClaim) (int, int) {
	for i, c := range claims {
		for n, chart := range chartsOf(s) {
			x := readingOf(s, chart, c.Kind)
			if lies(chart, c.Sets) && (c.Total && x.Kind == api.ReadSilent || c.Clear && x.Kind == api.ReadSplit) {
				return i, n
			}
		}
	}
	return -1, -1
}

// P6.4: the first claim that is not kept, and the first chart.
func TestKeeps(t *testing.T) {
	next := noise(64)
	kept := 0
	for range 3000 {
		s := noiseSchool(next, size{places: 3, signs: 3, kinds: 3, answers: 3, rules: 6, ranks: 2})
		var claims []api.SchoolClaim
		for range next(5) {
			claims = append(claims, api.SchoolClaim{Kind: next(s.Kinds - 1), Sets: noiseRegion(next, s), Total: next(2) == 0, Clear: next(2) == 0})
		}
		claim, chart, e := school.Keeps(s, claims)
		if i, n := broken(s, claims); claim != i || chart != n || e != api.OK {
			t.Fatal(s, claims, claim, chart, e, i, n)
		}
		if claim == -1 && len(claims) > 1 {
			kept++
		}
	}
	if kept < 300 || kept > 2700 {
		t.Error("the schools are too much alike", kept)
	}
}

// P6.4: up to 20 claims, whose errors come claim by claim, before any claim is looked at.
func TestClaims(t *testing.T) {
	fine := api.SchoolClaim{Sets: []uint64{7, 7}}
	total := api.SchoolClaim{Sets: []uint64{7, 7}, Total: true}
	noKind := api.SchoolClaim{Kind: 1, Sets: []uint64{7}}
	noForm := api.SchoolClaim{Sets: []uint64{7, 8}, Total: true}
	for i, c := range []struct {
		claims       []api.SchoolClaim
		claim, chart int
		e            api.Errno
	}{
		{nil, -1, -1, api.OK},
		{[]api.SchoolClaim{}, -1, -1, api.OK},
		{slices.Repeat([]api.SchoolClaim{fine}, 20), -1, -1, api.OK},
		{append(slices.Repeat([]api.SchoolClaim{fine}, 19), total), 19, 6, api.OK},
		{[]api.SchoolClaim{total, total}, 0, 6, api.OK},
		{slices.Repeat([]api.SchoolClaim{fine}, 21), 0, 0, api.ErrLong},
		{slices.Repeat([]api.SchoolClaim{noKind}, 21), 0, 0, api.ErrLong},
		{[]api.SchoolClaim{noKind}, 0, 0, api.ErrNone},
		{[]api.SchoolClaim{noForm, noKind}, 0, 0, api.ErrForm},
		{[]api.SchoolClaim{noKind, noForm}, 0, 0, api.ErrNone},
		{[]api.SchoolClaim{total, noForm, noKind}, 0, 0, api.ErrForm},
		{append(slices.Repeat([]api.SchoolClaim{fine}, 19), noForm), 0, 0, api.ErrForm},
	} {
		claim, chart, e := school.Keeps(example(), c.claims)
		if claim != c.claim || chart != c.chart || e != c.e {
			t.Error(i, claim, chart, e)
		}
	}
}

// P6.5: the first chart that two schools read differently.
func TestDiffer(t *testing.T) {
	next := noise(65)
	alike := 0
	for range 3000 {
		a := noiseSchool(next, few())
		b := copied(a)
		for range next(2) {
			if len(b.Rules) == 0 {
				break
			}
			r := &b.Rules[next(len(b.Rules)-1)]
			r.Rank, r.Says = r.Rank+next(1), next(b.Answers-1)
		}
		for kind := range a.Kinds {
			n, e := school.Differ(a, b, kind)
			m, f := school.Differ(b, a, kind)
			if want := differing(a, b, kind); n != want || e != api.OK || m != want || f != api.OK {
				t.Fatal(a, b, kind, n, e, m, f, want)
			}
			if n == -1 {
				alike++
			}
		}
	}
	if alike < 500 {
		t.Error("the schools are too different", alike)
	}
}

// P6.5: other answers are another reading where both are split, too; other rules that say the same are not.
func TestDifferInAnswers(t *testing.T) {
	rule := func(says int) api.SchoolRule { return api.SchoolRule{Kinds: 1, Says: says} }
	of := func(rules ...api.SchoolRule) api.School {
		return api.School{Places: 1, Signs: 1, Kinds: 1, Answers: 20, Rules: rules}
	}
	for i, c := range []struct {
		a, b api.School
		want int
	}{
		{of(rule(1), rule(2)), of(rule(1), rule(3)), 0},
		{of(rule(1), rule(2)), of(rule(2), rule(1)), -1},
		{of(rule(1), rule(2)), of(rule(2), rule(1), rule(1)), -1},
		{of(rule(1), rule(2)), of(rule(1), rule(2), rule(3)), 0},
		{of(rule(1)), of(api.SchoolRule{}, rule(1)), -1},
		{of(rule(1)), of(), 0},
		{of(rule(19)), of(rule(18)), 0},
		{of(), of(api.SchoolRule{Says: 4}), -1},
	} {
		if n, e := school.Differ(c.a, c.b, 0); n != c.want || e != api.OK {
			t.Error(i, n, e)
		}
	}
}

// P6.5: schools that cannot be compared.
func TestDifferErrors(t *testing.T) {
	small := api.School{Places: 2, Signs: 2, Kinds: 2, Answers: 5}
	long := api.School{Places: 3, Signs: 3, Kinds: 2, Answers: 5}
	turned := api.School{Places: 2, Signs: 4, Kinds: 1, Answers: 1}
	four := api.School{Places: 4, Signs: 2, Kinds: 1, Answers: 1} // with as many charts as turned
	wide := api.School{Places: 2, Signs: 3, Kinds: 2, Answers: 20}
	for i, c := range []struct {
		a, b api.School
		kind int
		want int
		e    api.Errno
	}{
		{example(), small, 0, 0, api.ErrState},
		{example(), small, 5, 0, api.ErrState},
		{small, example(), 0, 0, api.ErrState},
		{example(), long, 0, 0, api.ErrState},
		{long, example(), -1, 0, api.ErrState},
		{turned, four, 0, 0, api.ErrState},
		{example(), wide, 0, 0, api.OK},
		{wide, example(), 0, 0, api.OK},
		{example(), wide, 1, 0, api.ErrNone},
		{wide, example(), 1, 0, api.ErrNone},
		{wide, wide, 1, -1, api.OK},
		{wide, wide, 2, 0, api.ErrNone},
	} {
		if n, e := school.Differ(c.a, c.b, c.kind); n != c.want || e != c.e {
			t.Error(i, n, e)
		}
	}
}

// P6.8: where a claim that is total and clear is kept, each chart is read as said, and the other way round.
func TestTotalAndClear(t *testing.T) {
	next := noise(68)
	kept := 0
	for range 3000 {
		s := noiseSchool(next, few())
		sets, kind := noiseRegion(next, s), next(s.Kinds-1)
		claim, _, e := school.Keeps(s, []api.SchoolClaim{{Kind: kind, Sets: sets, Total: true, Clear: true}})
		all := true
		for n, chart := range chartsOf(s) {
			said := ok(school.Read(s, ok(school.Chart(s, n)), kind)).Kind == api.ReadSaid
			all = all && (said || !lies(chart, sets))
		}
		c := ok(school.Count(s, kind, sets))
		if e != api.OK || all != (claim == -1) || all != (c.Silent+c.Split == 0) {
			t.Error(s, sets, kind, claim, e, c)
		}
		if all && c.Charts > 0 {
			kept++
		}
	}
	if kept < 100 {
		t.Error("too few claims are kept", kept)
	}
}

// P6.9: only the order of ranks matters.
func TestOrderOfRanks(t *testing.T) {
	next := noise(69)
	for range 2000 {
		s := noiseSchool(next, size{places: 2, signs: 3, kinds: 2, answers: 3, rules: 8, ranks: 5})
		spread := copied(s)
		for i, r := range s.Rules {
			spread.Rules[i].Rank = []int{-100, -99, 0, 7, 100}[r.Rank+2]
		}
		for kind := range s.Kinds {
			if n := ok(school.Differ(s, spread, kind)); n != -1 {
				t.Error(s, spread, kind, n)
			}
		}
	}
}

// P6.9: a rule more, at the end and with a rank below all others, changes only readings that were silent.
func TestLowestRule(t *testing.T) {
	next := noise(610)
	changed := 0
	for range 2000 {
		s := noiseSchool(next, few())
		more := copied(s)
		more.Rules = append(more.Rules, api.SchoolRule{When: noiseTests(next, s, 1), Kinds: 1<<s.Kinds - 1, Rank: -100, Says: next(s.Answers - 1)})
		for kind := range s.Kinds {
			for _, chart := range chartsOf(s) {
				x, y := ok(school.Read(s, chart, kind)), ok(school.Read(more, chart, kind))
				if x.Kind != api.ReadSilent && !equal(x, y) {
					t.Error(s, more, chart, kind, x, y)
				}
				if !equal(x, y) {
					changed++
				}
			}
		}
	}
	if changed < 100 {
		t.Error("too few readings change", changed)
	}
}

// The second and the third example of the chapter.
func TestExampleOfCounts(t *testing.T) {
	c, e := school.Count(example(), 0, []uint64{7, 7})
	if e != api.OK || !sameCensus(c, api.SchoolCensus{Charts: 9, Silent: 2, Split: 2, Said: []int{2, 3, 0}}) {
		t.Error(c, e)
	}
	for i, chart := range [][]int{{2, 0}, {2, 1}, {0, 2}, {1, 2}} {
		if x := ok(school.Read(example(), chart, 0)); x.Kind != []api.ReadKind{api.ReadSilent, api.ReadSplit}[i/2] {
			t.Error(chart, x)
		}
	}
	sets := []uint64{set(0, 1, 2), set(0, 1)}
	if claim, chart, e := school.Keeps(example(), []api.SchoolClaim{{Sets: sets, Clear: true}}); claim != -1 || chart != -1 || e != api.OK {
		t.Error(claim, chart, e)
	}
	if claim, chart, e := school.Keeps(example(), []api.SchoolClaim{{Sets: sets, Total: true}}); claim != 0 || chart != 6 || e != api.OK {
		t.Error(claim, chart, e)
	}
}

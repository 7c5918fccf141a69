package school_test

import (
	"math"
	"slices"
	"testing"

	"astragal/api"
	"astragal/school"
)

// glossOf returns the first chart with which a commentary is wrong, in the document's words.
func glossOf(s api.School, kind int, cases []api.SchoolCase) (int, int, api.GlossFault) {
	for n, chart := range chartsOf(s) {
		var about []int
		for i, c := range cases {
			if holds(c.When, chart) {
				about = append(about, i)
			}
		}
		if len(about) == 0 {
			return n, -1, api.GlossForgotten
		}
		if len(about) > 1 {
			return n, about[1], api.GlossTwice
		}
		x := readingOf(s, chart, kind)
		if x.Kind != api.ReadSaid || x.Answers[0] != cases[about[0]].Says {
			return n, about[0], api.GlossWrong
		}
	}
	return -1, -1, 0
}

// right returns a commentary with a case for each chart, with the answer of its reading, or 0 if there is not just one.
func right(s api.School, kind int) []api.SchoolCase {
	var l []api.SchoolCase
	for _, chart := range chartsOf(s) {
		c := api.SchoolCase{}
		for place, f := range chart {
			c.When = append(c.When, in(place, f))
		}
		if x := readingOf(s, chart, kind); x.Kind == api.ReadSaid {
			c.Says = x.Answers[0]
		}
		l = append(l, c)
	}
	return l
}

// P6.7: the first fault of any commentary.
func TestGloss(t *testing.T) {
	next := noise(613)
	found := map[api.GlossFault]int{}
	for range 3000 {
		s := noiseSchool(next, few())
		var cases []api.SchoolCase
		for range next(4) {
			cases = append(cases, api.SchoolCase{When: noiseTests(next, s, 3), Says: next(s.Answers - 1)})
		}
		kind := next(s.Kinds - 1)
		found[glossed(t, s, kind, cases)]++
	}
	if len(found) != 4 {
		t.Error(found)
	}
}

// glossed checks and returns the first fault of a commentary.
func glossed(t *testing.T, s api.School, kind int, cases []api.SchoolCase) api.GlossFault {
	t.Helper()
	chart, at, fault, e := school.Gloss(s, kind, cases)
	if n, i, f := glossOf(s, kind, cases); chart != n || at != i || fault != f || e != api.OK {
		t.Fatal(s, kind, cases, chart, at, fault, e, n, i, f)
	}
	return fault
}

// P6.7: commentaries that are right or nearly so.
func TestGlossNearlyRight(t *testing.T) {
	next := noise(614)
	found := map[api.GlossFault]int{}
	for range 3000 {
		s := noiseSchool(next, size{places: 2, signs: 3, kinds: 2, answers: 3, rules: 4, ranks: 20})
		s.Rules = append(s.Rules, api.SchoolRule{Kinds: 1<<s.Kinds - 1, Rank: -11, Says: next(s.Answers - 1)})
		kind := next(s.Kinds - 1)
		cases := right(s, kind)
		at := next(len(cases) - 1)
		switch next(4) {
		case 0:
			cases = slices.Delete(cases, at, at+1)
		case 1:
			cases = append(cases, api.SchoolCase{When: cases[at].When, Says: next(s.Answers - 1)})
		case 2:
			cases[at].Says = next(s.Answers - 1)
		case 3:
			cases[at].When[next(s.Places-1)].Set = everywhere(s)[0]
		}
		found[glossed(t, s, kind, cases)]++
	}
	if len(found) != 4 || found[0] < 200 {
		t.Error(found)
	}
}

// P6.11: if nothing is wrong, all charts are read as said, each by the one case that is about it.
func TestRightCommentaries(t *testing.T) {
	next := noise(615)
	fine := 0
	for range 2000 {
		s := noiseSchool(next, few())
		kind := next(s.Kinds - 1)
		cases := right(s, kind)
		_, _, fault, e := school.Gloss(s, kind, cases)
		all := ok(school.Count(s, kind, everywhere(s)))
		if e != api.OK || (fault == 0) != (all.Silent+all.Split == 0) {
			t.Error(s, kind, fault, e, all)
		}
		if fault != 0 {
			continue
		}
		fine++
		for _, chart := range chartsOf(s) {
			about := slices.DeleteFunc(slices.Clone(cases), func(c api.SchoolCase) bool { return !holds(c.When, chart) })
			x := ok(school.Read(s, chart, kind))
			if len(about) != 1 || x.Kind != api.ReadSaid || x.Answers[0] != about[0].Says {
				t.Error(s, chart, x, about)
			}
		}
	}
	if fine < 100 {
		t.Error("too few schools always say one thing", fine)
	}
}

// plainSchool returns a school with one chart, of which its rules say these answers.
func plainSchool(says ...int) api.School {
	s := api.School{Places: 1, Signs: 1, Kinds: 1, Answers: 20}
	for _, a := range says {
		s.Rules = append(s.Rules, api.SchoolRule{Kinds: 1, Says: a})
	}
	return s
}

// P6.7: which fault comes first where several ones are there.
func TestOrderOfFaults(t *testing.T) {
	about := func(says int) api.SchoolCase { return api.SchoolCase{Says: says} }
	never := api.SchoolCase{When: tests(in(0)), Says: 5}
	for i, c := range []struct {
		s     api.School
		cases []api.SchoolCase
		at    int
		fault api.GlossFault
	}{
		{plainSchool(5), nil, -1, api.GlossForgotten},
		{plainSchool(), nil, -1, api.GlossForgotten},
		{plainSchool(5), []api.SchoolCase{never}, -1, api.GlossForgotten},
		{plainSchool(5), []api.SchoolCase{about(4), about(5)}, 1, api.GlossTwice},
		{plainSchool(5), []api.SchoolCase{about(5), about(5), about(5)}, 1, api.GlossTwice},
		{plainSchool(5), []api.SchoolCase{never, about(5), never, about(5), about(5)}, 3, api.GlossTwice},
		{plainSchool(5), []api.SchoolCase{never, about(4), never}, 1, api.GlossWrong},
		{plainSchool(5), []api.SchoolCase{never, never, about(5)}, -1, 0},
		{plainSchool(), []api.SchoolCase{about(0)}, 0, api.GlossWrong},
		{plainSchool(5, 6), []api.SchoolCase{never, about(5)}, 1, api.GlossWrong},
		{plainSchool(5, 6), []api.SchoolCase{about(6)}, 0, api.GlossWrong},
		{plainSchool(5, 5), []api.SchoolCase{about(5)}, -1, 0},
	} {
		chart, at, fault, e := school.Gloss(c.s, 0, c.cases)
		if chart != min(0, int(c.fault)-1) || at != c.at || fault != c.fault || e != api.OK {
			t.Error(i, chart, at, fault, e)
		}
	}
}

// P6.7: the errors of cases.
func TestGlossErrors(t *testing.T) {
	fine := api.SchoolCase{When: tests(in(0, 0)), Says: 1}
	for i, c := range []struct {
		cases []api.SchoolCase
		e     api.Errno
	}{
		{slices.Repeat([]api.SchoolCase{fine}, 40), api.OK},
		{slices.Repeat([]api.SchoolCase{fine}, 41), api.ErrLong},
		{slices.Repeat([]api.SchoolCase{{Says: -1}}, 41), api.ErrLong},
		{[]api.SchoolCase{{When: slices.Repeat(tests(in(0, 0)), 6), Says: 2}}, api.OK},
		{[]api.SchoolCase{{When: slices.Repeat(tests(in(0, 0)), 7), Says: 2}}, api.ErrForm},
		{[]api.SchoolCase{{Says: 3}}, api.ErrForm},
		{[]api.SchoolCase{{Says: -1}}, api.ErrForm},
		{[]api.SchoolCase{{Says: math.MaxInt}}, api.ErrForm},
		{[]api.SchoolCase{fine, fine, {When: tests(in(0, 0), in(2, 0))}}, api.ErrForm},
		{[]api.SchoolCase{{When: tests(in(-1, 0))}}, api.ErrForm},
		{[]api.SchoolCase{{When: tests(in(1, 3))}}, api.ErrForm},
		{[]api.SchoolCase{{When: tests(same(1, 1))}}, api.ErrForm},
		{[]api.SchoolCase{{When: tests(other(0, 2))}}, api.ErrForm},
		{[]api.SchoolCase{{When: tests(api.SchoolTest{})}}, api.ErrForm},
		{[]api.SchoolCase{{When: tests(api.SchoolTest{Kind: 4})}}, api.ErrForm},
	} {
		chart, at, fault, e := school.Gloss(example(), 0, c.cases)
		if e != c.e || e != api.OK && (chart != 0 || at != 0 || fault != 0) {
			t.Error(i, chart, at, fault, e)
		}
	}
}

// The fifth example of the chapter.
func TestExampleOfCommentaries(t *testing.T) {
	cases := []api.SchoolCase{{When: tests(in(0, 0, 1)), Says: 0}, {When: tests(in(0, 2)), Says: 1}}
	if chart, at, fault, e := school.Gloss(example(), 0, cases); chart != 0 || at != 0 || fault != api.GlossWrong || e != api.OK {
		t.Error(chart, at, fault, e)
	}
}

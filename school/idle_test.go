package school_test

import (
	"slices"
	"testing"
	"time"

	"astragal/api"
	"astragal/school"
)

// idleOf returns the idle rules, found by reading all charts without each rule.
func idleOf(s api.School) []int {
	var l []int
	for i := range s.Rules {
		if readsAlike(s, without(s, i)) {
			l = append(l, i)
		}
	}
	return l
}

// minimalOf returns the rules that remain, in the document's words, and how often all rules were gone through.
func minimalOf(s api.School) (remaining []int, rounds int) {
	var out []int
	for again := true; again; rounds++ {
		again = false
		for i := len(s.Rules) - 1; i >= 0; i-- {
			if !slices.Contains(out, i) && readsAlike(without(s, out...), without(s, append(slices.Clone(out), i)...)) {
				out = append(out, i)
				again = true
			}
		}
	}
	for i := range s.Rules {
		if !slices.Contains(out, i) {
			remaining = append(remaining, i)
		}
	}
	return remaining, rounds
}

// P6.6: the idle rules of any school.
func TestIdle(t *testing.T) {
	next := noise(66)
	found := 0
	for range 1200 {
		s := noiseSchool(next, few())
		l, e := school.Idle(s)
		if want := idleOf(s); !slices.Equal(l, want) || e != api.OK {
			t.Fatal(s, l, e, want)
		}
		if len(l) > 0 && len(l) < len(s.Rules) {
			found++
		}
	}
	if found < 300 {
		t.Error("too few schools have idle rules", found)
	}
}

// P6.6: the rules that remain of any school.
func TestMinimal(t *testing.T) {
	next := noise(67)
	for range 1500 {
		s := noiseSchool(next, size{places: 2, signs: 2, kinds: 2, answers: 2, rules: 8, ranks: 3})
		l, e := school.Minimal(s)
		if want, _ := minimalOf(s); !slices.Equal(l, want) || e != api.OK {
			t.Fatal(s, l, e, want)
		}
	}
}

// ladder returns a school whose rule 1 becomes idle when 0 is left out, because then 3 is not silenced any more, and whose rule 2 becomes idle when 1 is left out, because of 4.
func ladder() api.School {
	return api.School{Places: 1, Signs: 4, Kinds: 1, Answers: 2, Rules: []api.SchoolRule{
		{When: tests(in(0, 0)), Kinds: 1, Rank: 0, Says: 0},
		{When: tests(in(0, 0, 1)), Kinds: 1, Rank: 2, Says: 1},
		{When: tests(in(0, 1)), Kinds: 1, Rank: 4, Says: 0},
		{When: tests(in(0, 0, 2)), Kinds: 1, Rank: 1, Says: 1, Unless: []int{0}},
		{When: tests(in(0, 1, 3)), Kinds: 1, Rank: 3, Says: 0, Unless: []int{1}},
	}}
}

// P6.6: rules are gone through until none is left out any more.
func TestMinimalRounds(t *testing.T) {
	if l := ok(school.Idle(ladder())); !slices.Equal(l, []int{0}) {
		t.Error(l)
	}
	if l := ok(school.Minimal(ladder())); !slices.Equal(l, []int{3, 4}) {
		t.Error(l)
	}
	next := noise(68)
	rounds := map[int]int{}
	for range 1500 {
		s := ladder()
		for range 1 + next(2) {
			r := &s.Rules[next(4)]
			r.When[0].Set ^= set(next(3))
			r.Rank += next(2) - 1
		}
		l, e := school.Minimal(s)
		want, n := minimalOf(s)
		if !slices.Equal(l, want) || e != api.OK {
			t.Fatal(s, l, e, want)
		}
		rounds[n]++
	}
	if rounds[3] < 20 || rounds[4] < 20 {
		t.Error("too few schools need several rounds", rounds)
	}
}

// P6.6: a rule that is needed for one kind of questions alone, or for one chart alone, is not idle.
func TestNeeded(t *testing.T) {
	s := api.School{Places: 6, Signs: 4, Kinds: 4, Answers: 2, Rules: []api.SchoolRule{{Kinds: 15}, {Kinds: 15}, {Kinds: 15}}}
	last := tests(in(0, 3), in(1, 3), in(2, 3), in(3, 3), in(4, 3), in(5, 3))
	for kind := range 4 {
		s.Rules[1] = api.SchoolRule{When: last, Kinds: 1 << kind, Says: 1}
		if l := ok(school.Idle(s)); !slices.Equal(l, []int{0, 2}) {
			t.Error(kind, l)
		}
		if l := ok(school.Minimal(s)); !slices.Equal(l, []int{0, 1}) {
			t.Error(kind, l)
		}
		s.Rules[1].Says = 0
		if l := ok(school.Idle(s)); !slices.Equal(l, []int{0, 1, 2}) {
			t.Error(kind, l)
		}
		if l := ok(school.Minimal(s)); !slices.Equal(l, []int{0}) {
			t.Error(kind, l)
		}
	}
}

// P6.6: schools with no rules, and with none that is needed.
func TestNoneNeeded(t *testing.T) {
	for _, rules := range [][]api.SchoolRule{nil, {}, {{}}, make([]api.SchoolRule, 30), {{When: tests(in(0)), Kinds: 1}}} {
		s := api.School{Places: 1, Signs: 1, Kinds: 1, Answers: 1, Rules: rules}
		l, e := school.Idle(s)
		if len(l) != len(rules) || e != api.OK {
			t.Error(rules, l, e)
		}
		if least, e := school.Minimal(s); len(least) != 0 || e != api.OK {
			t.Error(rules, least, e)
		}
	}
}

// P6.10: the school without all rules but those of Minimal reads all charts as the school does, and without one more it does not.
func TestMinimalIsEnough(t *testing.T) {
	next := noise(611)
	for range 1500 {
		s := noiseSchool(next, size{places: 3, signs: 3, kinds: 3, answers: 4, rules: 10, ranks: 3})
		least := ok(school.Minimal(s))
		var out []int
		for i := range s.Rules {
			if !slices.Contains(least, i) {
				out = append(out, i)
			}
		}
		if !slices.IsSorted(least) || !comparesAlike(s, without(s, out...)) {
			t.Error(s, least)
		}
		for _, i := range least {
			if comparesAlike(s, without(without(s, out...), i)) {
				t.Error(s, least, i)
			}
		}
	}
}

// comparesAlike reports whether Differ finds no chart that two schools read differently.
func comparesAlike(a, b api.School) bool {
	for kind := range a.Kinds {
		if ok(school.Differ(a, b, kind)) != -1 {
			return false
		}
	}
	return true
}

// P6.10: a rule of no kind of questions is idle.
func TestRulesOfNoKind(t *testing.T) {
	next := noise(612)
	for range 500 {
		s := noiseSchool(next, few())
		idle, least := ok(school.Idle(s)), ok(school.Minimal(s))
		for i, r := range s.Rules {
			if r.Kinds == 0 && (!slices.Contains(idle, i) || slices.Contains(least, i)) {
				t.Error(s, i, idle, least)
			}
		}
	}
}

// P1: Minimal comes to an end soon, with as many charts, kinds and rules as there can be.
func TestBigSchools(t *testing.T) {
	s := api.School{Places: 6, Signs: 4, Kinds: 4, Answers: 20}
	for i := range 30 {
		r := api.SchoolRule{When: tests(in(i%6, i/6%4, i%4)), Kinds: 1 + i%15, Rank: i % 3, Says: i % 20}
		for o := max(0, i-9); o < i; o += 2 {
			r.Unless = append(r.Unless, o)
		}
		s.Rules = append(s.Rules, r)
	}
	start := time.Now()
	idle, e := school.Idle(s)
	least, f := school.Minimal(s)
	if e != api.OK || f != api.OK || len(idle)+len(least) < 30 {
		t.Error(idle, e, least, f)
	}
	if time.Since(start) > 10*time.Second {
		t.Error("too slow")
	}
}

// The fourth example of the chapter.
func TestExampleOfIdleRules(t *testing.T) {
	if l, e := school.Idle(example()); len(l) != 0 || e != api.OK {
		t.Error(l, e)
	}
	s := example()
	s.Rules[1].Rank = -1
	less := without(s, 1)
	for n, chart := range chartsOf(s) {
		if x, y := ok(school.Read(s, chart, 0)), ok(school.Read(less, chart, 0)); agree(x, y) == (n == 8) {
			t.Error(chart, x, y)
		}
	}
	if l, e := school.Idle(s); len(l) != 0 || e != api.OK {
		t.Error(l, e)
	}
}

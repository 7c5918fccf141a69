package bureau_test

import (
	"fmt"
	"strings"
	"testing"

	"astragal/api"
	"astragal/bureau"
	"astragal/school"
)

// The third example of the chapter.
func TestExampleOfSchool(t *testing.T) {
	says(t, bureau.New(), "school 2 3 1 3 > ok", "rule 1 0 0 - 0=3 > 0", "rule 1 1 1 - 0:1 > 1", "rule 1 0 2 1 1=4 > 2", "read 0,2 0 > split 0,2 0,2", "silent 0 > 6", "split 0 > 2", "minimal > 0,1,2")
}

// P12.6: the errors without a school, and with one.
func TestSchoolErrors(t *testing.T) {
	b := bureau.New()
	says(t, b, "rule 1 0 0 - - > ErrState", "rule -1 999 -1 9,9 - > ErrState", "read 0 0 > ErrState", "read - -1 > ErrState", "silent 0 > ErrState", "silent -1 > ErrState", "split 0 > ErrState", "split 9 > ErrState", "minimal > ErrState",
		"school 0 1 1 1 > ErrArg", "school 7 1 1 1 > ErrArg", "school 1 0 1 1 > ErrArg", "school 1 65 1 1 > ErrArg", "school 6 5 1 1 > ErrArg", "school 1 1 0 1 > ErrArg", "school 1 1 5 1 > ErrArg", "school 1 1 1 0 > ErrArg", "school 1 1 1 21 > ErrArg", "school -1 -1 -1 -1 > ErrArg", "minimal > ErrState",
		"school 2 3 2 4 > ok", "minimal > -", "rule 4 0 0 - - > ErrArg", "rule -1 0 0 - - > ErrArg", "rule 3 101 0 - - > ErrArg", "rule 3 -101 0 - - > ErrArg", "rule 3 0 4 - - > ErrArg", "rule 3 0 -1 - - > ErrArg", "rule 3 0 0 0 - > ErrArg", "rule 3 0 0 - 2=1 > ErrArg", "rule 3 0 0 - -1=1 > ErrArg", "rule 3 0 0 - 0=8 > ErrArg", "rule 3 0 0 - 0:0 > ErrArg", "rule 3 0 0 - 0/2 > ErrArg", "rule 3 0 0 - 0=1,0=1,0=1,0=1,0=1,0=1,0=1 > ErrArg",
		"read 0,0 0 > silent - -", "rule 3 100 3 - 0=1,0=3,0=7,0:1,1/0,1=0 > 0", "rule 3 -100 0 0 - > 1", "rule 0 0 0 1,0 - > ErrArg", "rule 0 0 0 0,0 - > ErrArg", "rule 0 0 0 2 - > ErrArg", "rule 0 0 0 0,1 - > 2", "rule 0 0 0 0,1,2,3,4,5 - > ErrArg",
		"read 0 0 > ErrForm", "read - 0 > ErrForm", "read 0,3 9 > ErrForm", "read 0,-1 0 > ErrForm", "read 0,0,0 0 > ErrForm", "read 0,0 2 > ErrNone", "read 0,0 -1 > ErrNone", "silent 2 > ErrNone", "silent -1 > ErrNone", "split 2 > ErrNone", "read 0,0 1 > said 0 1")
}

// P12.6: 30 rules at most, and another school instead of one.
func TestManyRules(t *testing.T) {
	b := bureau.New()
	says(t, b, "school 1 64 1 20")
	for k := range 30 {
		says(t, b, fmt.Sprintf("rule 1 %d %d - 0=%d > %d", k, k%20, 1<<k, k))
	}
	says(t, b, "rule 1 0 0 - - > ErrArg", "read 29 0 > said 9 29", "silent 0 > 30", "minimal > "+numbersTo(30), "school 0 0 0 0 > ErrArg", "minimal > "+numbersTo(30), "school 1 2 1 1 > ok", "minimal > -", "read 1 0 > silent - -", "read 29 0 > ErrForm", "rule 1 0 0 - 0=3 > 0", "silent 0 > -1")
}

// numbersTo writes the numbers below a number.
func numbersTo(n int) string {
	var l []int
	for k := range n {
		l = append(l, k)
	}
	return spread(",", l...)
}

// P12.6: tests, exceptions, ranks and kinds, as chapter 6 has them.
func TestReadings(t *testing.T) {
	b := bureau.New()
	says(t, b, "school 3 4 2 3", "rule 1 0 0 - 0=5,1:2 > 0", "rule 2 0 1 - 0/1 > 1", "rule 3 0 2 0 2=8,0/2 > 2", "rule 3 -1 1 - 0=8 > 3",
		"read 0,1,1 0 > said 0 0", "read 0,1,1 1 > said 1 1", "read 1,1,1 0 > silent - -", "read 3,3,3 0 > said 1 3", "read 2,3,3 0 > said 0 0", "read 2,3,3 1 > split 1,2 1,2", "read 2,1,3 0 > said 2 2", "read 2,1,3 1 > split 1,2 1,2",
		"silent 0 > 1", "split 0 > -1", "silent 1 > 0", "split 1 > 7")
}

// P12.6: what the first charts are, for schools of all sizes, also with all 64 figures.
func TestFirstCharts(t *testing.T) {
	for _, size := range [][2]int{{1, 1}, {1, 64}, {2, 64}, {3, 16}, {4, 8}, {6, 4}, {6, 2}} {
		places, signs := size[0], size[1]
		b := bureau.New()
		last := 1
		for range places {
			last *= signs
		}
		says(t, b, fmt.Sprintf("school %d %d 2 2", places, signs), "silent 0 > 0", "split 0 > -1")
		if signs > 1 && signs < 54 {
			// Each chart but the last one has a figure that is not the last one at some place.
			for place := range places {
				says(t, b, fmt.Sprintf("rule 3 0 0 - %d=%d", place, 1<<(signs-1)-1))
			}
			says(t, b, fmt.Sprint("silent 0 > ", last-1), "silent 1 > "+fmt.Sprint(last-1), "rule 2 0 1 - 0=1", "split 0 > -1", "split 1 > 0", "rule 2 1 1 - -", "split 1 > -1", "silent 1 > -1", fmt.Sprint("silent 0 > ", last-1))
		}
	}
}

// P12.6: schools of any rules answer as chapter 6 does.
func TestSchools(t *testing.T) {
	next := noise(126)
	for range 60 {
		s := api.School{Places: 1 + next(2), Signs: 2 + next(2), Kinds: 1 + next(1), Answers: 1 + next(3)}
		b := bureau.New()
		says(t, b, fmt.Sprintf("school %d %d %d %d > ok", s.Places, s.Signs, s.Kinds, s.Answers))
		for number := range 1 + next(5) {
			r := api.SchoolRule{Kinds: next(1<<s.Kinds - 1), Rank: next(2) - 1, Says: next(s.Answers - 1)}
			for k := range number {
				if next(3) == 0 {
					r.Unless = append(r.Unless, k)
				}
			}
			var tests []string
			for range next(2) {
				p, q, set := next(s.Places-1), next(s.Places-1), next(1<<s.Signs-1)
				switch {
				case p == q || next(1) == 0:
					r.When, tests = append(r.When, api.SchoolTest{Kind: api.TestIn, Place: p, Set: uint64(set)}), append(tests, fmt.Sprint(p, "=", set))
				case next(1) == 0:
					r.When, tests = append(r.When, api.SchoolTest{Kind: api.TestSame, Place: p, Other: q}), append(tests, fmt.Sprint(p, ":", q))
				default:
					r.When, tests = append(r.When, api.SchoolTest{Kind: api.TestOther, Place: p, Other: q}), append(tests, fmt.Sprint(p, "/", q))
				}
			}
			s.Rules = append(s.Rules, r)
			says(t, b, fmt.Sprintf("rule %d %d %d %s %s > %d", r.Kinds, r.Rank, r.Says, spread(",", r.Unless...), spread(",", tests...), number))
		}
		answersAs(t, b, s)
	}
}

// answersAs checks that a bureau answers as a school does.
func answersAs(t *testing.T, b *bureau.Bureau, s api.School) {
	t.Helper()
	says(t, b, "minimal > "+spread(",", ok(school.Minimal(s))...))
	for kind := range s.Kinds {
		first := map[api.ReadKind]int{api.ReadSilent: -1, api.ReadSplit: -1}
		for number := 0; ; number++ {
			chart, e := school.Chart(s, number)
			if e != api.OK {
				break
			}
			r := ok(school.Read(s, chart, kind))
			if n, is := first[r.Kind]; is && n < 0 {
				first[r.Kind] = number
			}
			word := strings.Fields("said silent split")[r.Kind-1]
			says(t, b, fmt.Sprintf("read %s %d > %s %s %s", spread(",", chart...), kind, word, spread(",", r.Answers...), spread(",", r.Rules...)))
		}
		says(t, b, fmt.Sprintf("silent %d > %d", kind, first[api.ReadSilent]), fmt.Sprintf("split %d > %d", kind, first[api.ReadSplit]))
	}
}

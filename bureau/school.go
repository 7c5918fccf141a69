package bureau

import (
	"slices"

	"astragal/api"
	"astragal/school"
)

// readings are the words for how a chart is read.
var readings = [...]string{api.ReadSaid: "said", api.ReadSilent: "silent", api.ReadSplit: "split"}

// hasSchool reports whether there is a school.
func (b *Bureau) hasSchool() bool { return b.school != nil }

// found founds a school without rules.
func (b *Bureau) found(w []word) (string, api.Errno) {
	s := api.School{Places: w[0].number, Signs: w[1].number, Kinds: w[2].number, Answers: w[3].number}
	if e := school.Check(s); e != api.OK {
		return "", e
	}
	b.school = &s
	return answer(api.OK, done)
}

// rule adds a rule to the school.
func (b *Bureau) rule(w []word) (string, api.Errno) {
	s := *b.school
	s.Rules = append(slices.Clip(s.Rules), api.SchoolRule{
		Kinds:  w[0].number,
		Rank:   w[1].number,
		Says:   w[2].number,
		Unless: w[3].numbers,
		When:   w[4].tests,
	})
	if e := school.Check(s); e != api.OK {
		return "", e
	}
	b.school = &s
	return answer(api.OK, number(len(s.Rules)-1))
}

// read tells how the school reads a chart.
func (b *Bureau) read(w []word) (string, api.Errno) {
	r, e := school.Read(*b.school, w[0].numbers, w[1].number)
	return answer(e, readings[r.Kind], list(r.Answers), list(r.Rules))
}

// claiming returns what tells the first of all charts with which the school does not keep the claim to be total, or unambiguous.
func claiming(total, unambiguous bool) deed {
	return func(b *Bureau, w []word) (string, api.Errno) {
		every := slices.Repeat([]uint64{1<<b.school.Signs - 1}, b.school.Places)
		claim := api.SchoolClaim{Kind: w[0].number, Sets: every, Total: total, Clear: unambiguous}
		_, chart, e := school.Keeps(*b.school, []api.SchoolClaim{claim})
		return answer(e, number(chart))
	}
}

// minimal tells which rules the school needs.
func (b *Bureau) minimal([]word) (string, api.Errno) {
	l, e := school.Minimal(*b.school)
	return answer(e, list(l))
}

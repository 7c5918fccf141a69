package school

import (
	"slices"

	"astragal/api"
	"astragal/whole"
)

// measured reports whether the numbers of a school are valid, beside its rules.
func measured(s api.School) bool {
	return among(s.Places, 1, api.MaxPlaces) &&
		among(s.Signs, 1, api.MaxSigns) &&
		charts(s) <= api.MaxCharts &&
		among(s.Kinds, 1, api.MaxQuestions) &&
		among(s.Answers, 1, api.MaxAnswers)
}

// validRule reports whether the rule with a number is valid in a school.
func validRule(s api.School, number int, rule api.SchoolRule) bool {
	return validTests(s, rule.When) &&
		among(rule.Kinds, 0, 1<<s.Kinds-1) &&
		among(rule.Rank, -api.MaxRank, api.MaxRank) &&
		validUnless(number, rule.Unless) &&
		isAnswer(s, rule.Says)
}

// validUnless reports whether these can silence the rule with a number.
func validUnless(number int, unless []int) bool {
	if len(unless) > api.MaxUnless || slices.ContainsFunc(unless, whole.Outside(0, number-1)) {
		return false
	}
	for k := 1; k < len(unless); k++ {
		if unless[k-1] >= unless[k] {
			return false
		}
	}
	return true
}

// validTests reports whether these can be the tests of a rule or a case of a school.
func validTests(s api.School, tests []api.SchoolTest) bool {
	invalid := func(t api.SchoolTest) bool { return !validTest(s, t) }
	return len(tests) <= api.MaxTests && !slices.ContainsFunc(tests, invalid)
}

// validTest reports whether a test is valid in a school.
func validTest(s api.School, t api.SchoolTest) bool {
	switch t.Kind {
	case api.TestIn:
		return isPlace(s, t.Place) && t.Other == 0 && isSet(s, t.Set)
	case api.TestSame, api.TestOther:
		return isPlace(s, t.Place) && isPlace(s, t.Other) && t.Place != t.Other && t.Set == 0
	}
	return false
}

// isRegion reports whether sets are a region of the charts of a school.
func isRegion(s api.School, sets []uint64) bool {
	invalid := func(set uint64) bool { return !isSet(s, set) }
	return len(sets) == s.Places && !slices.ContainsFunc(sets, invalid)
}

// isChart reports whether figures are a chart of a school.
func isChart(s api.School, figures []int) bool {
	return len(figures) == s.Places && !slices.ContainsFunc(figures, whole.Outside(0, s.Signs-1))
}

// isSet reports whether a set has none but figures of a school.
func isSet(s api.School, set uint64) bool { return set>>s.Signs == 0 }

// isPlace reports whether a school has the place with a number.
func isPlace(s api.School, place int) bool { return among(place, 0, s.Places-1) }

// isKind reports whether a school has the kind of questions with a number.
func isKind(s api.School, kind int) bool { return among(kind, 0, s.Kinds-1) }

// isAnswer reports whether a school has the answer with a number.
func isAnswer(s api.School, answer int) bool { return among(answer, 0, s.Answers-1) }

// among reports whether a number is from low to high.
func among(number, low, high int) bool { return low <= number && number <= high }

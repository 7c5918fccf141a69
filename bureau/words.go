package bureau

import (
	"strconv"
	"strings"

	"astragal/api"
)

// Sizes of words: how many digits a number has at most, and how many letters a name.
const (
	maxDigits = 16
	maxName   = 12
)

// word is a word of a line, and what its form makes of it.
type word struct {
	text    string
	number  int
	numbers []int
	faces   []api.Face
	tests   []api.SchoolTest
	days    []api.DayTest
}

// readWord reads a word of a form, and reports whether it has this form. A form is named by a rune that such a word can contain: a name by a letter, a number by a digit, the others by what stands in between; and any word by a question mark.
func readWord(form rune, text string) (w word, is bool) {
	w.text = text
	switch form {
	case 'a':
		is = isName(text)
	case '1':
		w.number, is = numberOf(text)
	case ',':
		w.numbers, is = some(text, numberOf)
	case ':':
		w.faces, is = each(text, faceOf)
	case '=':
		w.tests, is = some(text, schoolTestOf)
	case '.':
		w.days, is = some(text, dayTestOf)
	case '?':
		is = text != ""
	}
	return w, is
}

// isName reports whether a text is a name.
func isName(text string) bool {
	other := func(c rune) bool { return c < 'a' || c > 'z' }
	return text != "" && len(text) <= maxName && !strings.ContainsFunc(text, other)
}

// numberOf returns the number that a text is, and whether it is one.
func numberOf(text string) (int, bool) {
	n, _ := strconv.Atoi(text)
	// Written again, so that each number has one form only.
	return n, strconv.Itoa(n) == text && len(strings.TrimPrefix(text, "-")) <= maxDigits
}

// pairOf returns the two numbers that a text has before and behind what is between them, and whether it has.
func pairOf(text, between string) (a, b int, is bool) {
	before, behind, _ := strings.Cut(text, between)
	a, first := numberOf(before)
	b, second := numberOf(behind)
	return a, b, first && second
}

// each returns what the parts of a text are, which are separated by commas, and whether all of them are.
func each[T any](text string, part func(string) (T, bool)) ([]T, bool) {
	var l []T
	for piece := range strings.SplitSeq(text, ",") {
		x, is := part(piece)
		if !is {
			return nil, false
		}
		l = append(l, x)
	}
	return l, true
}

// some returns the same as each, and nothing for a text that says that there are none.
func some[T any](text string, part func(string) (T, bool)) ([]T, bool) {
	if text == none {
		return nil, true
	}
	return each(text, part)
}

// faceOf returns the face that a text is, and whether it is one.
func faceOf(text string) (api.Face, bool) {
	value, weight, is := pairOf(text, ":")
	return api.Face{Value: value, Weight: weight}, is
}

// schoolTestOf returns the test of a chart that a text is, and whether it is one.
func schoolTestOf(text string) (api.SchoolTest, bool) {
	if place, set, is := pairOf(text, "="); is {
		return api.SchoolTest{Kind: api.TestIn, Place: place, Set: uint64(set)}, set >= 0
	}
	if place, other, is := pairOf(text, ":"); is {
		return api.SchoolTest{Kind: api.TestSame, Place: place, Other: other}, true
	}
	place, other, is := pairOf(text, "/")
	return api.SchoolTest{Kind: api.TestOther, Place: place, Other: other}, is
}

// dayTestOf returns the test of a day that a text is, and whether it is one.
func dayTestOf(text string) (api.DayTest, bool) {
	if text == "leap" {
		return api.DayTest{Kind: api.DayLeap}, true
	}
	if from, to, is := pairOf(text, ".."); is {
		return api.DayTest{Kind: api.DayBetween, From: from, To: to}, true
	}
	what, behind, _ := strings.Cut(text, "=")
	set, is := numberOf(behind)
	t, known := askedOf(what)
	t.Set = uint64(set)
	return t, is && set >= 0 && known
}

// askedOf returns the test of a day that a text begins, without its set, and whether there is one.
func askedOf(what string) (t api.DayTest, is bool) {
	if number, cycle := strings.CutPrefix(what, "c"); cycle {
		t.Kind = api.DayCycle
		t.Which, is = numberOf(number)
		return t, is
	}
	switch what {
	case "m":
		t.Kind = api.DaySolarMonth
	case "d":
		t.Kind = api.DaySolarDay
	case "M":
		t.Kind = api.DayLunarMonth
	case "D":
		t.Kind = api.DayLunarDay
	}
	return t, t.Kind != 0
}

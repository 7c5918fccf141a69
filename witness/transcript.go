package witness

import (
	"slices"
	"strconv"
	"strings"

	"astragal/api"
)

// maxDigits is how many digits a number of a transcript has at most.
const maxDigits = 16

// lines are the lines of a transcript.
type lines struct{ text string }

// add adds a line of some words, and returns its number.
func (l *lines) add(words ...string) int {
	l.text += strings.Join(words, " ") + "\n"
	return strings.Count(l.text, "\n")
}

// Audit reads a transcript, and returns what it says, or the line that is wrong.
func Audit(s string) (r api.AuditReport, line int, e api.Errno) {
	if len(s) > api.MaxTranscript {
		return api.AuditReport{}, 0, api.ErrLong
	}
	var d *Drawing
	for text := range strings.Lines(s) {
		line++
		if d, e = read(d, text); e != api.OK {
			return api.AuditReport{}, line, e
		}
	}
	if d == nil {
		return api.AuditReport{}, 1, api.ErrForm
	}
	return d.report(), 0, api.OK
}

// read carries out a line of a transcript in a drawing, or makes the drawing if there is none, and returns it.
func read(d *Drawing, text string) (*Drawing, api.Errno) {
	line, ended := strings.CutSuffix(text, "\n")
	words := strings.Split(line, " ")
	numbers := numbersOf(words...)
	is := func(first string, numerals, others int) bool {
		return words[0] == first && len(words) == 1+numerals+others && !slices.Contains(numbers[1:1+numerals], -1)
	}
	switch {
	case !ended || slices.Contains(words, ""):
		return d, api.ErrForm
	case d == nil && is("draw", 2, 0):
		return New(numbers[1], numbers[2])
	case d != nil && is("seal", 1, 1):
		return d, d.Seal(numbers[1], words[2])
	case d != nil && is("open", 2, 1):
		_, e := d.Open(api.Box{Person: numbers[1], Value: numbers[2], Salt: words[3]})
		return d, e
	case d != nil && is("close", 0, 0):
		return d, d.Close()
	}
	return d, api.ErrForm
}

// numbersOf returns the numbers that words are, -1 for those that are none.
func numbersOf(words ...string) []int {
	var l []int
	for _, word := range words {
		n, _ := strconv.Atoi(word)
		// Written again, so that each number has one form only.
		if n < 0 || len(word) > maxDigits || strconv.Itoa(n) != word {
			n = -1
		}
		l = append(l, n)
	}
	return l
}

// report returns what the transcript of a drawing says.
func (d *Drawing) report() api.AuditReport {
	// The drawing is there, so that Deviants has no error.
	deviants, _ := d.Deviants()
	value, e := d.Value()
	if e != api.OK {
		value = -1
	}
	return api.AuditReport{Below: d.below, Persons: len(d.parts), Over: d.over(), Value: value, Deviants: deviants}
}

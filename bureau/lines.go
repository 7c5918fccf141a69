package bureau

import (
	"strings"

	"astragal/api"
)

// deed carries out a line in a bureau, given the words behind its command, and returns the answer.
type deed func(b *Bureau, w []word) (string, api.Errno)

// line is a form of lines: a rune for the form of each word behind the command (see readWord), and what carries it out.
type line struct {
	forms string
	does  deed
}

// lines returns the forms of lines by their commands.
func lines() map[string]line {
	return map[string]line{
		"throw":    {"a1:", keeping((*kept).throw)},
		"marks":    {"a11", keeping((*kept).marks)},
		"stalks":   {"a111", keeping((*kept).stalks)},
		"cards":    {"a1,", keeping((*kept).draw)},
		"deck":     {"a,", keeping((*kept).cut)},
		"cast":     {"a,", asking((*kept).cast)},
		"weights":  {"a", asking((*kept).weights)},
		"chance":   {"a,", asking((*kept).chance)},
		"tally":    {"a", asking((*kept).tally)},
		"evidence": {"aa", (*Bureau).evidence},
		"sand":     {"a,", charting(sand)},
		"chart":    {"a1", charting(numbered)},
		"figure":   {"a1", (*Bureau).figure},
		"houses":   {"a11", (*Bureau).houses},
		"mend":     {",", (*Bureau).mend},
		"lines":    {",", (*Bureau).hexagrams},
		"school":   {"1111", (*Bureau).found},
		"rule":     {"111,=", where((*Bureau).hasSchool, (*Bureau).rule)},
		"read":     {",1", where((*Bureau).hasSchool, (*Bureau).read)},
		"silent":   {"1", where((*Bureau).hasSchool, claiming(true, false))},
		"split":    {"1", where((*Bureau).hasSchool, claiming(false, true))},
		"minimal":  {"", where((*Bureau).hasSchool, (*Bureau).minimal)},
		"day":      {"1", (*Bureau).day},
		"cycle":    {"11", (*Bureau).cycle},
		"moon":     {"1111111", (*Bureau).moon},
		"allow":    {".", ruling(true)},
		"forbid":   {".", ruling(false)},
		"date":     {"", (*Bureau).date},
		"next":     {"1", (*Bureau).next},
		"rota":     {"11", (*Bureau).begin},
		"due":      {"", where((*Bureau).hasRota, (*Bureau).due)},
		"serve":    {"1", where((*Bureau).hasRota, (*Bureau).serve)},
		"draw":     {"11", (*Bureau).draw},
		"seal":     {"1?", where((*Bureau).hasDrawing, (*Bureau).seal)},
		"open":     {"11?", where((*Bureau).hasDrawing, (*Bureau).open)},
		"close":    {"", where((*Bureau).hasDrawing, (*Bureau).close)},
		"value":    {"", where((*Bureau).hasDrawing, (*Bureau).value)},
		"deviants": {"", where((*Bureau).hasDrawing, (*Bureau).deviants)},
		"lot":      {"", where((*Bureau).hasDrawing, where((*Bureau).hasRota, (*Bureau).lot))},
		"exam":     {"a11", (*Bureau).exam},
		"score":    {"", (*Bureau).score},
	}
}

// readLine returns what carries out a line, and the words behind its command, or that it does not have the form of a line.
func readLine(s string) (does deed, words []word, is bool) {
	texts := strings.Split(s, " ")
	l, known := lines()[texts[0]]
	if !known || len(texts) != 1+len(l.forms) {
		return nil, nil, false
	}
	for k, form := range l.forms {
		w, fits := readWord(form, texts[1+k])
		if !fits {
			return nil, nil, false
		}
		words = append(words, w)
	}
	return l.does, words, true
}

// where returns what does something where a bureau has what is needed, and has ErrState elsewhere.
func where(has func(*Bureau) bool, does deed) deed {
	return func(b *Bureau, w []word) (string, api.Errno) {
		if !has(b) {
			return "", api.ErrState
		}
		return does(b, w)
	}
}

package bureau_test

import (
	"fmt"
	"hash/fnv"
	"regexp"
	"slices"
	"strconv"
	"strings"
	"testing"

	"astragal/api"
	"astragal/bureau"
)

// failures are the errors that lines can have, by the names that the document gives them.
var failures = map[string]api.Errno{
	"ErrNil": api.ErrNil, "ErrArg": api.ErrArg, "ErrRange": api.ErrRange, "ErrForm": api.ErrForm, "ErrLong": api.ErrLong, "ErrTwice": api.ErrTwice,
	"ErrNone": api.ErrNone, "ErrFull": api.ErrFull, "ErrState": api.ErrState, "ErrStep": api.ErrStep, "ErrDeviant": api.ErrDeviant,
}

// ok returns the result of a call that has no error.
func ok[T any](x T, e api.Errno) T {
	if e != api.OK {
		panic(e)
	}
	return x
}

// noise returns numbers from 0 to most that follow no simple rule, and the same ones for the same seed.
func noise(seed uint64) func(most int) int {
	return func(most int) int {
		seed = seed*6364136223846793005 + 1442695040888963407
		return int((seed >> 16) % uint64(most+1))
	}
}

// says carries out lines in a bureau: behind the arrow of each stands what it must answer, or the name of its error; without an arrow it must have no error.
func says(t *testing.T, b *bureau.Bureau, lines ...string) {
	t.Helper()
	for _, s := range lines {
		line, want, told := strings.Cut(s, " > ")
		text, e := b.Line(line)
		wanted, fails := failures[want]
		switch {
		case fails && (text != "" || e != wanted), told && !fails && (text != want || e != api.OK), !told && e != api.OK:
			t.Errorf("%.100q: %.200q %v, want %.200q", line, text, e, want)
		}
	}
}

// text returns the answer of a line that has no error.
func text(b *bureau.Bureau, line string) string {
	s, e := b.Line(line)
	if e != api.OK {
		panic(line)
	}
	return s
}

// sealOf returns the hash of a box.
func sealOf(person, value int, salt string) string {
	h := fnv.New64a()
	fmt.Fprintf(h, "%d:%d:%s", person, value, salt)
	return fmt.Sprintf("%016x", h.Sum64())
}

// drawn returns the lines of a drawing in which nobody deviates, and the persons from 1 on have these values.
func drawn(below int, values ...int) []string {
	l := []string{fmt.Sprint("draw ", below, " ", len(values))}
	for k, v := range values {
		l = append(l, fmt.Sprint("seal ", k+1, " ", sealOf(k+1, v, "s")))
	}
	for k, v := range values {
		l = append(l, fmt.Sprint("open ", k+1, " ", v, " s"))
	}
	return l
}

// questions are lines that tell much of what a bureau has, and change nothing.
func questions() []string {
	l := []string{"minimal", "silent 0", "split 0", "date", "next 30", "next 200", "due", "value", "deviants", "score"}
	for _, name := range []string{"a", "b", "c", "d", "e"} {
		l = append(l, "weights "+name, "tally "+name, "figure "+name+" 0", "figure "+name+" 1", "figure "+name+" 2", "figure "+name+" 3")
	}
	return l
}

// state returns what a bureau answers to the questions.
func state(b *bureau.Bureau) []api.Reply {
	var l []api.Reply
	for _, s := range questions() {
		text, e := b.Line(s)
		l = append(l, api.Reply{Text: text, Err: e})
	}
	return l
}

// forms are the forms of lines, as the document writes them.
func forms() []string {
	return []string{
		"throw NAME COUNT FACES", "marks NAME LOW HIGH", "stalks NAME COUNT GROUP CHANGES", "cards NAME COUNT CARDS", "deck NAME CARDS",
		"cast NAME CHOICES", "weights NAME", "chance NAME LIST", "tally NAME", "evidence NAME OTHER",
		"sand NAME ROWS", "chart NAME NUMBER", "figure NAME PLACE", "houses NAME A B", "mend FIGURES", "lines LIST",
		"school PLACES SIGNS KINDS ANSWERS", "rule KINDS RANK SAYS LIST TESTS", "read CHART KIND", "silent KIND", "split KIND", "minimal",
		"day N", "cycle LENGTH START", "moon DAYS PER PHASE MONTHS YEARS SHIFT LEAP", "allow TESTS", "forbid TESTS", "date", "next DAYS",
		"rota PERSONS SEATS", "due", "serve NUMBER",
		"draw BELOW PERSONS", "seal PERSON HASH", "open PERSON VALUE SALT", "close", "value", "deviants", "lot",
		"exam NAME PLACE FIGURE", "score",
	}
}

// N is a number, S one that is not below 0.
const (
	S = `(?:0|[1-9][0-9]{0,15})`
	N = `(?:0|-?[1-9][0-9]{0,15})`
)

// pattern returns the regular expression of the word that a word in capitals stands for, in the lines of a command.
func pattern(command, capitals string) string {
	many := func(part string) string { return part + "(?:," + part + ")*" }
	switch capitals {
	case "LIST", "CARDS", "ROWS", "FIGURES", "CHART", "CHOICES":
		return "-|" + many(N)
	case "FACES":
		return many(N + ":" + N)
	case "NAME", "OTHER":
		return "[a-z]{1,12}"
	case "HASH", "SALT":
		return "[^ ]+"
	case "TESTS":
		if command == "rule" {
			return "-|" + many("(?:"+N+"="+S+"|"+N+":"+N+"|"+N+"/"+N+")")
		}
		return "-|" + many("(?:c"+N+"="+S+"|[mdMD]="+S+"|leap|"+N+`\.\.`+N+")")
	}
	return N
}

// reader reads lines of one form.
type reader struct {
	command, form string
	words         *regexp.Regexp
}

// readers are the readers of all forms.
var readers = compile()

// compile returns a reader for each form.
func compile() []reader {
	var l []reader
	for _, form := range forms() {
		capitals := strings.Fields(form)
		r := reader{command: capitals[0], form: form}
		for k, word := range capitals[1:] {
			capitals[k+1] = "(" + pattern(r.command, word) + ")"
		}
		r.words = regexp.MustCompile(`(?s)\A` + strings.Join(capitals, " ") + `\z`)
		l = append(l, r)
	}
	return l
}

// said is a line that has been read: its words, by what stands for them in the form.
type said map[string]string

// n returns a number of a line.
func (s said) n(what string) int { return toNumber(s[what]) }

// l returns a list of a line.
func (s said) l(what string) []int { return toNumbers(s[what], ",") }

// toNumber returns the number that a text is.
func toNumber(text string) int {
	n, err := strconv.Atoi(text)
	if err != nil {
		panic(text)
	}
	return n
}

// toNumbers returns the numbers that a text is, with something between them.
func toNumbers(text, between string) []int {
	var l []int
	for _, word := range parts(text, between) {
		l = append(l, toNumber(word))
	}
	return l
}

// parts returns the parts of a text, with something between them.
func parts(text, between string) []string {
	if text == "-" {
		return nil
	}
	return strings.Split(text, between)
}

// spread writes values with something between them.
func spread[T any](between string, l ...T) string {
	if len(l) == 0 {
		return "-"
	}
	var words []string
	for _, x := range l {
		words = append(words, fmt.Sprint(x))
	}
	return strings.Join(words, between)
}

// same checks that a bureau answers lines as a clerk does, and returns how many of each command had no error.
func same(t *testing.T, b *bureau.Bureau, c *clerk, lines ...string) map[string]int {
	t.Helper()
	done := map[string]int{}
	for k, line := range lines {
		text, e := b.Line(line)
		want, wanted := c.say(line)
		if text != want || e != wanted {
			t.Fatalf("%.100q: %.200q %v, want %.200q %v\nafter %.3000q", line, text, e, want, wanted, slices.Clone(lines[:k]))
		}
		if e == api.OK {
			command, _, _ := strings.Cut(line, " ")
			done[command]++
		}
	}
	return done
}

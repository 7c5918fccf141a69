package bureau_test

import (
	"fmt"
	"slices"
	"strings"
	"testing"

	"astragal/api"
	"astragal/bureau"
)

// The example of chapter 12 in the document itself.
func TestExampleOfAll(t *testing.T) {
	says(t, bureau.New(), "throw coins 3 2:1,3:1 > 10", "cast coins 0,1,1 > 8")
}

// extremes are numbers that are too small or too great for everything, and some that are not.
func extremes() []string {
	return []string{"-9999999999999999", "-1000000000000001", "-4294967297", "-2147483649", "-1", "0", "1", "2", "63", "64", "65", "2147483648", "4294967296", "1000000000000001", "9007199254740993", "9999999999999999"}
}

// P1, R2: all lines terminate without a panic, whatever numbers they have, with an empty answer beside an error.
func TestAnyNumbers(t *testing.T) {
	b := bureau.New()
	begin := []string{"marks a 1 2", "chart b 4660", "school 2 3 2 3", "rule 3 0 0 - -", "cycle 7 0", "allow -", "rota 5 2", "draw 10 2"}
	says(t, b, begin...)
	check := func(line string) {
		t.Helper()
		if text, e := b.Line(line); e != api.OK && text != "" {
			t.Errorf("%q: %q %v", line, text, e)
		}
	}
	for _, form := range forms() {
		words := strings.Fields(form)
		for at := range words[1:] {
			for _, n := range extremes() {
				filled := slices.Clone(words)
				for k, word := range words[1:] {
					switch word {
					case "NAME", "OTHER":
						filled[k+1] = "a"
						if strings.Contains("figure houses exam", words[0]) {
							filled[k+1] = "b"
						} else if k == 0 && strings.Contains("throw stalks cards deck sand chart", words[0]) {
							filled[k+1] = "new"
						}
					case "FACES":
						filled[k+1] = "1:1"
					case "TESTS":
						filled[k+1] = "leap"
						if words[0] == "rule" {
							filled[k+1] = "0:1"
						}
					default:
						filled[k+1] = "1"
					}
				}
				for _, word := range []string{n, n + "," + n, n + ":" + n, n + ":1", "1:" + n, n + "=" + n, n + "=1", "1=" + n, n + "/" + n, "c" + n + "=1", "c0=" + n, "m=" + n, "D=" + n, n + ".." + n, strings.Repeat(n+",", 15) + n, strings.Repeat(n+",", 100) + n} {
					filled[at+1] = word
					check(strings.Join(filled, " "))
				}
			}
		}
		check(form)
	}
}

// P1: bureaus that New did not return do not panic either, whatever they are told.
func TestZeroBureau(t *testing.T) {
	for _, line := range slices.Concat(examples(), questions()) {
		b := new(bureau.Bureau)
		for _, s := range []string{line, "rota 5 2", "serve 0", "marks coins 1 2", "chart leaf 0", line} {
			if text, e := b.Line(s); e != api.OK && text != "" {
				t.Error(s, text, e)
			}
		}
	}
	var b *bureau.Bureau
	for _, line := range append(examples(), "", strings.Repeat("x", 5000)) {
		if text, e := b.Line(line); text != "" || e != api.ErrNil {
			t.Error(line, text, e)
		}
	}
}

// P1: lines of any bytes.
func TestAnyBytes(t *testing.T) {
	next := noise(1)
	lines := examples()
	b, c := bureau.New(), newClerk()
	for range 4000 {
		line := lines[next(len(lines)-1)]
		for range 1 + next(3) {
			at := next(len(line))
			line = line[:at] + string([]byte{byte(next(255))}) + line[min(len(line), at+next(1)):]
		}
		same(t, b, c, line)
	}
}

// R2, P12.11: a line with an error changes nothing, in whatever state the bureau is.
func TestErrorsChangeNothing(t *testing.T) {
	next := noise(2)
	failed := 0
	for range 25 {
		b, c := bureau.New(), newClerk()
		before := state(b)
		for range 60 {
			l := []string{line(next, forms()[next(len(forms())-1)])}
			if next(4) == 0 {
				l = lots(next, c)
			}
			for _, s := range l {
				text, e := b.Line(s)
				c.say(s)
				after := state(b)
				if e != api.OK {
					failed++
					if !slices.Equal(before, after) || text != "" {
						t.Fatal(s, e, before, after)
					}
				}
				before = after
			}
		}
	}
	if failed < 500 {
		t.Error("hardly any", failed)
	}
}

// P12.1: the questions of a line change nothing, so that they are answered the same again.
func TestQuestionsChangeNothing(t *testing.T) {
	b := bureau.New()
	says(t, b, "throw a 2 0:1,1:2", "throw b 2 0:1,1:1", "cast a 0,1", "cast a 2,1", "chart a 4660", "school 2 3 1 2", "rule 1 0 0 - 0=3", "rule 1 0 1 0 1=4", "cycle 7 1", "allow c0=6", "day 9", "rota 5 2", "serve 3")
	says(t, b, drawn(6, 2, 3)...)
	l := append(questions(), "chance a 1,2", "evidence a b", "houses a 1 7", "mend 0,0,0,0,0,0,0,0,0,0,0,0,0,0,0,1", "lines 6,7,8,9,6,7", "read 0,2 0")
	var first []string
	for _, s := range l {
		text, _ := b.Line(s)
		first = append(first, text)
	}
	for k, s := range slices.Concat(l, l) {
		if text, _ := b.Line(s); text != first[k%len(l)] {
			t.Error(s, text, first[k%len(l)])
		}
	}
	for k, s := range slices.Backward(l) {
		if text, _ := b.Line(s); text != first[k] {
			t.Error(s, text, first[k])
		}
	}
}

// P12.11: what a bureau answers depends on nothing but its own lines.
func TestTwoBureaus(t *testing.T) {
	next := noise(3)
	var lines [2][]string
	var replies [2][]api.Reply
	bureaus := [2]*bureau.Bureau{bureau.New(), bureau.New()}
	for range 600 {
		k := next(1)
		s := line(next, forms()[next(len(forms())-1)])
		text, e := bureaus[k].Line(s)
		lines[k], replies[k] = append(lines[k], s), append(replies[k], api.Reply{Text: text, Err: e})
	}
	for k := range lines {
		if l := bureau.Play(lines[k]); !slices.Equal(l, replies[k]) {
			t.Error(k, fmt.Sprint(l))
		}
	}
}

package bureau_test

import (
	"fmt"
	"slices"
	"strings"
	"testing"

	"astragal/api"
	"astragal/bureau"
)

// examples are lines of each form which no bureau refuses because of their form.
func examples() []string {
	return []string{
		"throw coins 3 2:1,3:1", "marks sand 5 9", "stalks yarrow 9 4 1", "cards pack 2 0,0,1", "deck top 3,5,3",
		"cast coins 0,1,1", "weights coins", "chance coins 8,9", "tally coins", "evidence coins sand",
		"sand road 1,1,1,1", "chart leaf 0", "figure leaf 14", "houses leaf 1 7", "mend 0,0,0", "lines 7,8,9,6,7,7",
		"school 2 3 1 3", "rule 1 0 2 1 1=4,0:1,0/1", "read 0,2 0", "silent 0", "split 0", "minimal",
		"day 5", "cycle 7 0", "moon 59 2 0 235 19 0 4", "allow c0=1,m=2,d=4,M=8,D=16,leap,1..9", "forbid leap", "date", "next 10",
		"rota 5 2", "due", "serve 0", "draw 6 1", "seal 1 af63dc4c8601ec8c", "open 1 5 a", "close", "value", "deviants", "lot",
		"exam leaf 0 15", "score",
	}
}

// formed reports whether a line has a form: only then it can have another error than ErrForm, in a bureau without anything that can tell ErrForm for other reasons.
func formed(t *testing.T, line string) bool {
	t.Helper()
	text, e := bureau.New().Line(line)
	if e != api.OK && text != "" {
		t.Errorf("%.100q: %q %v", line, text, e)
	}
	return e != api.ErrForm
}

// P12.1: each form of lines, and that nothing in it can be missing, written otherwise, or added.
func TestForms(t *testing.T) {
	if len(examples()) != len(forms()) {
		t.Error(len(examples()))
	}
	for k, line := range examples() {
		command, _, _ := strings.Cut(forms()[k], " ")
		// The tests of days are refused as a wrong form by the almanac, too; they are checked alone.
		if !formed(t, line) && command != "allow" {
			t.Error(line)
		}
		words := strings.Split(line, " ")
		for at := range words {
			left := slices.Delete(slices.Clone(words), at, at+1)
			twice := slices.Insert(slices.Clone(words), at, words[at])
			for _, l := range [][]string{left, twice, slices.Concat(words[:at], []string{strings.ToUpper(words[at]) + "~"}, words[at+1:]), slices.Insert(slices.Clone(words), at, "")} {
				wrong := strings.Join(l, " ")
				if at == len(words)-1 && (command == "seal" || command == "open") && len(l) == len(words) {
					continue
				}
				if formed(t, wrong) {
					t.Errorf("%q", wrong)
				}
			}
		}
		for _, wrong := range []string{" " + line, line + " ", line + " 1", line + " -", strings.Replace(line, " ", "  ", 1) + " ", strings.Replace(line, " ", "\t", 1) + " ", strings.ToUpper(line), strings.ToUpper(line[:1]) + line[1:], "x" + line, "\n" + line} {
			if formed(t, wrong) {
				t.Errorf("%q", wrong)
			}
		}
	}
	for _, wrong := range []string{"", " ", "-", "0", "\n", "\x00", "é", "\xff", "scores", "scor", "Score", "score\n", "score\r\n", "open", "coins", "help", "quit"} {
		if formed(t, wrong) {
			t.Errorf("%q", wrong)
		}
	}
}

// numerals returns texts that are no numbers.
func numerals() []string {
	return []string{"", "00", "01", "-01", "-0", "-", "--1", "+1", "+0", "1-", " 1", "1.0", "1e3", "1_0", "0x1", "x", "a", "١", "1\n", "\xff", "12345678901234567", "-12345678901234567", "99999999999999999999", "-99999999999999999999", "9223372036854775807", "-9223372036854775808", "18446744073709551616"}
}

// P12.1: which words are numbers, and that each number has one form only.
func TestNumbers(t *testing.T) {
	for _, form := range []string{"day %s", "marks a %s 1", "marks a 1 %s", "chart a %s", "figure a %s", "serve %s", "school 1 %s 1 1", "moon 1 2 3 4 5 6 %s", "seal %s x", "open 1 %s x", "cast a %s", "cast a 1,%s", "cast a %s,1", "throw a 1 %s:1", "throw a 1 1:%s", "throw a 1 1:1,%s:1", "rule 1 1 1 %s -", "rule 1 1 1 - %s=1", "rule 1 1 1 - 1=%s", "rule 1 1 1 - %s:1", "rule 1 1 1 - 1:%s", "rule 1 1 1 - %s/1", "rule 1 1 1 - 0:1,1/%s"} {
		for _, wrong := range numerals() {
			line := fmt.Sprintf(form, wrong)
			// A list that is empty, and a face less, are right.
			if wrong == "-" && (form == "cast a %s" || form == "rule 1 1 1 %s -") {
				continue
			}
			if formed(t, line) {
				t.Errorf("%q", line)
			}
		}
		for _, right := range []string{"0", "1", "9", "10", "1000000", "1234567890123456", "9999999999999999", "-1", "-10", "-9999999999999999"} {
			line := fmt.Sprintf(form, right)
			if !formed(t, line) && (form != "rule 1 1 1 - 1=%s" || right[0] != '-') {
				t.Errorf("%q", line)
			}
		}
	}
	says(t, bureau.New(), "school 1 1 1 1", "rule 1 0 0 - 0=-1 > ErrForm", "rule 1 0 0 - -1=0 > ErrArg", "rule 1 0 0 - 0=9999999999999999 > ErrArg", "rule 1 0 0 - 0=0,0=1 > 0", "day 9999999999999999 > ErrRange", "day -9999999999999999 > ErrRange", "next 9999999999999999 > ErrRange", "next -9999999999999999 > ErrRange")
}

// P12.1: names.
func TestNames(t *testing.T) {
	for _, form := range []string{"marks %s 1 1", "tally %s", "chart %s 0", "exam %s 0 0", "evidence a %s", "evidence %s a"} {
		for _, right := range []string{"a", "z", "abcdefghijkl", "mnopqrstuvwx", "yz", "score", "throw"} {
			if line := fmt.Sprintf(form, right); !formed(t, line) {
				t.Errorf("%q", line)
			}
		}
		for _, wrong := range []string{"", "abcdefghijklm", "A", "a1", "1", "-", "a-b", "a,b", "aB", "é", "a\n", "a_", "`", "{", "\xff", strings.Repeat("a", 1000)} {
			if line := fmt.Sprintf(form, wrong); formed(t, line) {
				t.Errorf("%q", line)
			}
		}
	}
	for c := range 256 {
		name := string([]byte{'a', byte(c)})
		if formed(t, "tally "+name) != (c >= 'a' && c <= 'z') {
			t.Error(c)
		}
	}
	// The lengths of names are told apart, and so are the names themselves.
	says(t, bureau.New(), "marks abcdefghijkl 1 1 > 2", "marks abcdefghijk 1 1 > 2", "marks abcdefghijkm 1 1 > 2", "marks abcdefghijkl 1 1 > ErrTwice", "tally b > ErrNone")
}

// P12.1: lists, faces and tests.
func TestLists(t *testing.T) {
	for _, form := range []string{"cards a 1 %s", "deck a %s", "cast a %s", "chance a %s", "sand a %s", "mend %s", "lines %s", "rule 0 0 0 %s -"} {
		for _, right := range []string{"-", "0", "-1", "0,0", "-1,-1", "1,2,3,4,5,6,7", strings.Repeat("0,", 900) + "0"} {
			if line := fmt.Sprintf(form, right); !formed(t, line) {
				t.Errorf("%q", line)
			}
		}
		for _, wrong := range []string{"", ",", "1,", ",1", "1,,2", "-,1", "1,-", "--", "1, 2", "1;2", "[1]", "1:1", "1-2", "1,-0", "none", "a"} {
			if line := fmt.Sprintf(form, wrong); formed(t, line) {
				t.Errorf("%q", line)
			}
		}
	}
	for _, word := range []string{"-", "", "1", "1:", ":1", ":", "1:1,", ",1:1", "1:1,,1:1", "1:1,1", "1:1:1", "1:1,-", "1=1", "1/1", "1;1", "1:1;1:1", "a:1"} {
		if line := "throw a 1 " + word; formed(t, line) {
			t.Errorf("%q", line)
		}
	}
	for _, word := range []string{"", "1", "1=", "=1", "=", "1:", ":1", "1/", "/1", "1=1,", ",1=1", "1=1,,1=1", "1=1,-", "-,1=1", "1=1=1", "1:1:1", "1/1/1", "1=1:1", "1:1=1", "1:1/1", "1=-1", "1==1", "1!1", "1..1", "leap", "m=1", "c0=1", "--"} {
		if line := "rule 0 0 0 - " + word; formed(t, line) {
			t.Errorf("%q", line)
		}
	}
	for _, word := range []string{"-", "0=0", "0:0", "0/0", "-1=0", "-1:-1", "-1/-1", "0=9999999999999999", "0=1,0:1,0/1,5=5,6:6,7/7,8=8,9=9"} {
		if line := "rule 0 0 0 - " + word; !formed(t, line) {
			t.Errorf("%q", line)
		}
	}
}

// P12.1, P12.7: tests of days. With 30 rules each test of the right form is too much, whatever it asks.
func TestDayForms(t *testing.T) {
	b := bureau.New()
	for range 30 {
		says(t, b, "allow -")
	}
	for _, command := range []string{"allow ", "forbid "} {
		for _, word := range []string{"-", "c0=1", "c9=0", "c-1=5", "c9999999999999999=9999999999999999", "m=0", "m=1", "d=1", "M=9999999999999999", "D=5", "leap", "1..2", "2..1", "-5..-9", "0..9999999999999999", "leap,leap,leap,leap,leap,leap,leap", "c0=1,m=2,d=4,M=8,D=16,leap,1..9"} {
			says(t, b, command+word+" > ErrLong")
		}
		for _, word := range append(numerals(), "c=1", "c0=", "c0", "c=", "C0=1", "c0=-1", "c0=1=1", "c0:1", "cc0=1", "c0c=1", "0=1", "=1", "m", "m=", "m1=1", "m=-1", "m=m", "mm=1", "d=-1", "M=-1", "D=-1", "x=1", "d:1", "Leap", "leap=1", "leaps", "lea", "1..", "..1", "..", "1.2", "1...2", "1..2..3", "1..-0", "1..02", "a..b", "1=2", "1:2", "1/2", "leap,", ",leap", "leap,,leap", "leap,-", "-,leap", "m=1,x=1", "0", "1,2", "c0=1;m=2") {
			if word != "-" {
				says(t, b, command+word+" > ErrForm")
			}
		}
		for _, wrong := range numerals() {
			for _, form := range []string{"c%s=1", "c0=%s", "m=%s", "d=%s", "M=%s", "D=%s", "%s..1", "1..%s"} {
				says(t, b, command+fmt.Sprintf(form, wrong)+" > ErrForm")
			}
		}
	}
}

// P12.1, P12.9: hashes and salts are any words: what is wrong with them comes behind other errors.
func TestAnyWords(t *testing.T) {
	b := bureau.New()
	for _, word := range []string{"x", "-", "zz", "0", "a\tb", "é", "\xff", "\n", "a,b=c", strings.Repeat("x", 1900)} {
		says(t, b, "seal 1 "+word+" > ErrState", "open 1 1 "+word+" > ErrState")
	}
	says(t, b, "seal 1  > ErrForm", "open 1 1  > ErrForm", "seal 1 a b > ErrForm", "draw 5 1", "seal 2 zz > ErrNone", "seal 1 zz > ErrForm", "open 2 0 Z > ErrNone", "open 1 5 Z > ErrRange", "open 1 0 Z > ErrForm", "open 1 0 z > ErrState")
}

// P12.1: how long lines are, and the order of errors.
func TestLongLines(t *testing.T) {
	b := bureau.New()
	var nobody *bureau.Bureau
	for n := range 2100 {
		line := strings.Repeat("x", n)
		want := api.ErrForm
		if n > 2000 {
			want = api.ErrLong
		}
		if text, e := b.Line(line); text != "" || e != want {
			t.Error(n, text, e)
		}
		if text, e := nobody.Line(line); text != "" || e != api.ErrNil {
			t.Error(n, text, e)
		}
	}
	faces := "throw a 1 " + strings.Repeat("1:1,", 496)
	says(t, b, faces+"1:1000 > ErrArg", faces+"1:10000 > ErrLong", strings.Repeat("é", 1000)+" > ErrForm", strings.Repeat("é", 1000)+"x > ErrLong", "cast b "+strings.Repeat("1,", 996)+"1 > ErrNone", "score"+strings.Repeat(" ", 1995)+" > ErrForm", "score"+strings.Repeat(" ", 1996)+" > ErrLong")
	if text, e := nobody.Line("score"); text != "" || e != api.ErrNil {
		t.Error(text, e)
	}
}

// P12.1: what a bureau has at first, and that two of them do not know each other.
func TestNew(t *testing.T) {
	a, b := bureau.New(), bureau.New()
	empty := state(b)
	says(t, a, "marks a 1 2", "chart a 1", "school 1 1 1 1", "cycle 3 1", "moon 30 1 0 12 1 0 1", "allow -", "day 40", "rota 2 1", "draw 2 1", "exam a 0 0", "cast a 0")
	if !slices.Equal(state(b), empty) {
		t.Error(state(b))
	}
	says(t, b, "tally a > ErrNone", "figure a 0 > ErrNone", "minimal > ErrState", "date > 0-1-1 0-1-1", "next 4000 > ErrNone", "due > ErrState", "value > ErrState", "deviants > ErrState", "score > 0 0", "forbid c0=0 > ErrForm", "forbid - > 0", "cycle 5 0 > 0", "marks a 1 1 > 2", "chart a 0 > 0")
}

// P12.1: Play answers each line in a bureau of its own.
func TestPlay(t *testing.T) {
	lines := []string{"marks a 1 2", "cast a 1", "score x", "cast b 1", strings.Repeat("x", 2001), "tally a", ""}
	want := []api.Reply{{Text: "2"}, {Text: "0"}, {Err: api.ErrForm}, {Err: api.ErrNone}, {Err: api.ErrLong}, {Text: "0:1"}, {Err: api.ErrForm}}
	for range 2 {
		given := slices.Clone(lines)
		if l := bureau.Play(given); !slices.Equal(l, want) {
			t.Error(l)
		}
		if !slices.Equal(given, lines) {
			t.Error("an argument was changed", given)
		}
	}
	for _, l := range [][]string{nil, {}} {
		if l := bureau.Play(l); len(l) != 0 {
			t.Error(l)
		}
	}
}

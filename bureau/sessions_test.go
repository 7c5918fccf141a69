package bureau_test

import (
	"fmt"
	"slices"
	"strings"
	"testing"

	"astragal/api"
	"astragal/bureau"
)

// choices are words that can stand for those in capitals, of one command or of all; most of them are good ones.
var choices = map[string]string{
	"NAME": "a a a b b c d e", "OTHER": "a b c d",
	"throw COUNT": "1 2 2 3 8 0", "FACES": "0:1,1:1 0:1,1:1 2:1,3:1 0:2,1:1 0:1,2:3 1:1,3:4,4:4,6:1 0:1000 0:1,40:1 0:0",
	"LOW": "1 1 2 5 0 -1", "HIGH": "5 9 10 1000 1001",
	"stalks COUNT": "9 9 10 49 64 8", "GROUP": "2 3 4 4 1", "CHANGES": "1 1 2 5 0",
	"cards COUNT": "1 1 2 2 3 5", "CARDS": "0,1 1,0,1 0,0,1,2 3,5,3 - 8",
	"CHOICES": "0 1 2 0,1 1,1 1,0 0,0 1,0,1 0,1,1 - 0,9 -1 9", "chance LIST": "0 0,1 1 2 6,7 - 0,0 9999",
	"ROWS":   "1,1,1,1,2,2,2,2,2,2,2,2,2,2,2,2 1,2,3,4,5,6,7,8,9,10,11,12,13,14,15,16 1,1,2,2,1,2,1,2,1,1,1,2,2,1,1,1 1,2 1,1,1,1,1,1,1,1,1,1,1,1,1,1,1,0",
	"NUMBER": "0 1 2 3 4660 65535 65536 -1", "PLACE": "0 1 2 7 12 15 16 -1", "A": "1 2 7 12 13", "B": "1 4 8 10 11 0",
	"FIGURES": "0,0,0,0,0,0,0,0,0,0,0,0,0,0,0,0 15,0,0,0,1,1,1,1,15,0,0,0,15,0,11,0 1,2,3,4,5,6,7,8,9,10,11,12,13,14,15,0 1,2 - 1,2,3 0,0,0,0,0,0,0,0,0,0,0,0,0,0,0,0,0 0,0,0,0,0,0,0,0,0,0,0,0,0,0,0,16 -1,0,0,0,0,0,0,0,0,0,0,0,0,0,0,0",
	"FIGURE":  "0 0 1 1 15 6 9 16 -1", "lines LIST": "6,7,8,9,8,7 9,9,9,9,9,9 7,8,8,8,7,6 6,7 6,7,8,9,8,5",
	"PLACES": "1 2 2 3 7", "SIGNS": "2 3 3 4 64", "school KINDS": "1 2 4 0", "ANSWERS": "2 3 3 20 21",
	"rule KINDS": "0 1 1 1 3 2", "RANK": "0 0 1 -1 100 -100 101", "SAYS": "0 1 2 2 3", "rule LIST": "- - - 0 0,1 1 1,2 2,1 -1",
	"rule TESTS": "- 0=3 0=5 1=4 1=2 0:1 0/1 0=3,1=3 0=1,0/1 0:0 2=1 -1=1 0=99", "CHART": "0,1 0,0 1,1 1 0,2 2,1 0,1,1 -", "KIND": "0 0 0 1 3 -1",
	"N": "0 1 2 3 5 30 59 100 400 826 1000 5000 1000000 -1", "LENGTH": "2 7 7 10 64 0", "START": "0 0 1 3 6 64",
	"next DAYS": "0 1 7 30 59 200 4000 4001 -1", "moon DAYS": "59 59 60 118 29", "PER": "2 2 2 4 0", "PHASE": "0 0 1", "MONTHS": "235 235 236 12", "YEARS": "19 19 19 1", "SHIFT": "0 0 5", "LEAP": "4 1 2 12 13",
	"TESTS":   "- - c0=1 c0=3 c1=5 m=2 m=8190 d=2 d=1022 M=4 D=30 leap 3..900 0..1000000 0..5,c0=1 9..3 m=1 c0=0 5..-5 c-1=1",
	"PERSONS": "1 1 2 2 3 3 5 20 31", "SEATS": "1 1 2 3 4 6", "BELOW": "1 2 3 3 5 10 0", "PERSON": "1 1 1 2 2 3 31", "VALUE": "0 1 2 3", "SALT": "s t S",
}

// word returns a word that can stand for one in capitals.
func word(next func(int) int, command, capitals string) string {
	if capitals == "HASH" {
		return sealOf(1+next(2), next(2), []string{"s", "t"}[next(1)])
	}
	if command == "serve" {
		return fmt.Sprint(next(3) - next(1))
	}
	some := choices[command+" "+capitals]
	if some == "" {
		some = choices[capitals]
	}
	l := strings.Fields(some)
	return l[next(len(l)-1)]
}

// line returns a line of one of the forms.
func line(next func(int) int, form string) string {
	words := strings.Fields(form)
	for k := range words[1:] {
		words[1+k] = word(next, words[0], words[1+k])
	}
	return strings.Join(words, " ")
}

// broken returns a line with a byte more, or less, or another one.
func broken(next func(int) int, line string) string {
	at := next(len(line) - 1)
	bytes := " -,:=/.0019+azcmMlp\n\xff"
	more := string([]byte{bytes[next(len(bytes)-1)]})
	return []string{line[:at] + more + line[at:], line[:at] + line[at+1:], line[:at] + more + line[at+1:]}[next(2)]
}

// lots returns lines that draw who serves, among as many as are allowed, or another number of them.
func lots(next func(int) int, c *clerk) []string {
	due, _ := c.say("due")
	words := strings.Fields(due)
	below := 3
	if len(words) == 3 && next(4) > 0 {
		below = toNumber(words[2])
	}
	var values []int
	for range 1 + next(2) {
		values = append(values, next(below-1))
	}
	l := drawn(below, values...)
	switch next(5) {
	case 0:
		l = append(l[:len(l)-1], "close")
	case 1:
		l[1] = "seal 1 " + sealOf(1, values[0]+1, "s")
	}
	return append(l, "value", "deviants", "lot", "lot")
}

// P12.1 to P12.11, P12.13: in long sessions each line is answered as the document says, whatever came before it.
func TestSessions(t *testing.T) {
	all := map[string]int{}
	for seed := range 150 {
		next := noise(uint64(seed))
		b, c := bureau.New(), newClerk()
		// Each session has a part of the lines more often than the others.
		from, to := next(len(forms())-1), next(len(forms())-1)
		for range 150 {
			form := forms()[next(len(forms())-1)]
			if next(1) == 0 {
				form = forms()[min(from, to)+next(max(from, to)-min(from, to))]
			}
			l := []string{line(next, form)}
			switch next(11) {
			case 0:
				l[0] = broken(next, l[0])
			case 1:
				l = lots(next, c)
			}
			for command, n := range same(t, b, c, l...) {
				all[command] += n
			}
		}
		same(t, b, c, questions()...)
	}
	for _, form := range forms() {
		command, _, _ := strings.Cut(form, " ")
		if all[command] < 20 {
			t.Error("hardly any", command, all[command])
		}
	}
}

// P12.11: the lines of a list one by one are answered as Play answers them; and without those that have an error, the others are answered the same.
func TestOneAfterAnother(t *testing.T) {
	for seed := range 40 {
		next := noise(uint64(1000 + seed))
		var lines, good []string
		var replies, answers []api.Reply
		b, c := bureau.New(), newClerk()
		for range 60 {
			l := []string{line(next, forms()[next(len(forms())-1)])}
			if next(5) == 0 {
				l = lots(next, c)
			}
			for _, s := range l {
				text, e := b.Line(s)
				c.say(s)
				lines, replies = append(lines, s), append(replies, api.Reply{Text: text, Err: e})
				if e == api.OK {
					good, answers = append(good, s), append(answers, api.Reply{Text: text})
				}
			}
		}
		if l := bureau.Play(lines); !slices.Equal(l, replies) {
			t.Fatal(lines, l, replies)
		}
		if l := bureau.Play(good); !slices.Equal(l, answers) {
			t.Fatal(good, l, answers)
		}
	}
}

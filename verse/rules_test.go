package verse_test

import (
	"math"
	"strings"
	"testing"

	"astragal/api"
	"astragal/verse"
)

// P1, R2: all functions terminate without a panic, whatever they are given, with zero values beside an error.
func TestAnyArguments(t *testing.T) {
	check := func(e api.Errno, results ...any) {
		t.Helper()
		if e != api.OK && !zero(results...) {
			t.Error(results, e)
		}
	}
	books := []api.VerseBook{{}, example(), great(), full(60001), {Name: "n"}, {Verses: make([]api.Verse, 201)}, {Name: "n", Verses: make([]api.Verse, 200)}}
	for _, change := range breaks() {
		b := example()
		change(&b)
		books = append(books, b)
	}
	decks := append(noDecks(), nil, []int{2, -1}, []int{1, 2})
	numbers := append(extremes(), -2, -1, 0, 1, 2, 15, 16)
	for _, b := range books {
		s, e := verse.Write(b)
		check(e, s)
		check(verse.Check(b))
		for _, key := range []string{"", "a1", "b2", "\xff", strings.Repeat("a", 1000)} {
			l, e := verse.Reach(b, key)
			check(e, l)
			l, e = verse.Ring(b, key)
			check(e, l)
		}
		for _, n := range numbers {
			l, e := verse.For(b, api.Figure(n))
			check(e, l)
		}
		none, several, e := verse.Missing(b)
		check(e, none, several)
		for _, deck := range decks {
			for _, places := range [][]int{nil, {0}, {1, 0}, {0, 0}, numbers, make([]int, 79)} {
				l, e := verse.Draw(b, deck, places)
				check(e, l)
			}
		}
	}
	for _, n := range numbers {
		deck, e := verse.New(n)
		check(e, deck)
		for kind := range api.ShuffleKind(7) {
			for _, deck := range decks {
				for _, kind := range []api.ShuffleKind{kind - 1, math.MinInt, math.MaxInt} {
					l := []api.Shuffle{{Kind: kind, N: n}, {Kind: kind, N: n, Falls: make([]bool, 3)}}
					out, _, e := verse.Apply(deck, l)
					check(e, out)
					out, _, e = verse.Undo(deck, l)
					check(e, out)
				}
			}
		}
	}
	for _, s := range []string{"", "@", "\x00", "\xff\xfe\n", strings.Repeat("\n", 60000), strings.Repeat("@", 60001), strings.Repeat("#\n", 30000), "@n\n" + strings.Repeat("=0\n", 9), "@n\n#a\n=" + strings.Repeat("1", 50000) + "\n", "@n\n#a\n=" + strings.Repeat(",", 50000) + "\n"} {
		b, line, e := verse.Read(s)
		check(e, b)
		if e != api.ErrForm && e != api.ErrLong || (e == api.ErrLong) != (line == 0) {
			t.Errorf("%.20q %v %v", s, line, e)
		}
	}
}

package verse_test

import (
	"math"
	"slices"
	"testing"

	"astragal/api"
	"astragal/verse"
)

func cut(n int) api.Shuffle  { return api.Shuffle{Kind: api.CutAt, N: n} }
func turn(n int) api.Shuffle { return api.Shuffle{Kind: api.TurnTop, N: n} }
func deal(n int) api.Shuffle { return api.Shuffle{Kind: api.Deal, N: n} }
func riffle(n int, falls ...bool) api.Shuffle {
	return api.Shuffle{Kind: api.Riffle, N: n, Falls: falls}
}

// played shuffles a deck card by card, in the document's words.
func played(deck []int, s api.Shuffle) []int {
	take := func(from *[]int) int {
		card := (*from)[0]
		*from = (*from)[1:]
		return card
	}
	rest := slices.Clone(deck)
	var out []int
	switch s.Kind {
	case api.CutAt:
		for range s.N {
			rest = append(rest, take(&rest))
		}
	case api.TurnTop:
		for range s.N {
			out = slices.Insert(out, 0, -take(&rest))
		}
	case api.Riffle:
		first, others := slices.Clone(rest[:s.N]), slices.Clone(rest[s.N:])
		rest = nil
		for _, other := range s.Falls {
			if other {
				out = append(out, take(&others))
			} else {
				out = append(out, take(&first))
			}
		}
	case api.Deal:
		piles := make([][]int, s.N)
		for k := 0; len(rest) > 0; k++ {
			piles[k%s.N] = slices.Insert(piles[k%s.N], 0, take(&rest))
		}
		for _, pile := range piles {
			out = append(slices.Clone(pile), out...)
		}
	}
	return append(out, rest...)
}

// possible reports whether a shuffle can be made with n cards, in the document's words.
func possible(s api.Shuffle, n int) bool {
	others := 0
	for _, other := range s.Falls {
		if other {
			others++
		}
	}
	switch s.Kind {
	case api.CutAt, api.TurnTop:
		return len(s.Falls) == 0 && s.N >= 0 && s.N <= n
	case api.Riffle:
		return len(s.Falls) == n && s.N >= 0 && s.N <= n && others == n-s.N
	case api.Deal:
		return len(s.Falls) == 0 && s.N >= 1 && (s.N <= n || n == 0 && s.N == 1)
	}
	return false
}

// fallsOf returns all lists of so many falls.
func fallsOf(n int) [][]bool {
	var all [][]bool
	for number := range 1 << n {
		falls := make([]bool, n)
		for k := range falls {
			falls[k] = number>>k&1 == 1
		}
		all = append(all, falls)
	}
	return all
}

// shufflesOf returns all shuffles that can be made with so many cards, and many that can not.
func shufflesOf(n int) (all []api.Shuffle) {
	for kind := api.ShuffleKind(-1); kind <= 6; kind++ {
		for at := -2; at <= n+2; at++ {
			for length := range n + 2 {
				for _, falls := range fallsOf(length) {
					all = append(all, api.Shuffle{Kind: kind, N: at, Falls: falls})
				}
			}
		}
		for _, at := range extremes() {
			all = append(all, api.Shuffle{Kind: kind, N: at}, api.Shuffle{Kind: kind, N: at, Falls: make([]bool, n)}, api.Shuffle{Kind: kind, N: at, Falls: slices.Repeat([]bool{true}, n)})
		}
	}
	return all
}

// decksOf returns all decks with so many cards.
func decksOf(n int) [][]int {
	if n == 0 {
		return [][]int{nil}
	}
	var all [][]int
	for _, d := range decksOf(n - 1) {
		for at := range n {
			all = append(all, slices.Insert(slices.Clone(d), at, n), slices.Insert(slices.Clone(d), at, -n))
		}
	}
	return all
}

// noiseDeck returns a deck that follows no rule.
func noiseDeck(next func(int) int, n int) []int {
	deck := ok(verse.New(n))
	for k := range deck {
		o := next(k)
		deck[k], deck[o] = deck[o], deck[k]
		deck[o] *= 1 - 2*next(1)
	}
	return deck
}

// noiseShuffles returns so many shuffles that can be made with n cards.
func noiseShuffles(next func(int) int, many, n int) []api.Shuffle {
	var l []api.Shuffle
	for range many {
		s := api.Shuffle{Kind: api.ShuffleKind(1 + next(3)), N: next(n)}
		if s.Kind == api.Deal {
			s.N = 1 + next(max(n-1, 0))
		}
		if s.Kind == api.Riffle {
			s.Falls = make([]bool, n)
			for k := s.N; k < n; k++ {
				s.Falls[k] = true
			}
			for k := range s.Falls {
				o := next(k)
				s.Falls[k], s.Falls[o] = s.Falls[o], s.Falls[k]
			}
		}
		l = append(l, s)
	}
	return l
}

// P7.5: decks in order.
func TestNew(t *testing.T) {
	for n := range 79 {
		deck, e := verse.New(n)
		if len(deck) != n || e != api.OK {
			t.Error(n, deck, e)
		}
		for k, card := range deck {
			if card != k+1 {
				t.Error(n, deck)
			}
		}
	}
	for _, n := range append(extremes(), -1, -2, 80) {
		if deck, e := verse.New(n); len(deck) != 0 || e != api.ErrRange {
			t.Error(n, deck, e)
		}
	}
}

// P7.5: all shuffles of few cards, card by card, and back.
func TestShuffles(t *testing.T) {
	for n := range 6 {
		decks := decksOf(min(n, 3))
		if n > 3 {
			decks = [][]int{ok(verse.New(n)), noiseDeck(noise(uint64(n)), n)}
		}
		for _, s := range shufflesOf(n) {
			for _, deck := range decks {
				out, at, e := verse.Apply(deck, []api.Shuffle{s})
				back, atBack, f := verse.Undo(deck, []api.Shuffle{s})
				if !possible(s, n) {
					if len(out) != 0 || at != 0 || e != api.ErrShuffle || len(back) != 0 || atBack != 0 || f != api.ErrShuffle {
						t.Fatal(n, s, deck, out, at, e, back, atBack, f)
					}
					continue
				}
				if !slices.Equal(out, played(deck, s)) || at != 0 || e != api.OK {
					t.Fatal(n, s, deck, out, at, e)
				}
				if !slices.Equal(played(back, s), deck) || atBack != 0 || f != api.OK {
					t.Fatal(n, s, deck, back, atBack, f)
				}
			}
		}
	}
}

// P7.5, P7.10: many shuffles, one after another; nothing is lost, and all of them are undone.
func TestManyShuffles(t *testing.T) {
	next := noise(75)
	for range 400 {
		n := []int{0, 1, 2, 5, 22, 77, 78}[next(6)]
		deck, l := noiseDeck(next, n), noiseShuffles(next, next(60), n)
		was, shuffles := slices.Clone(deck), slices.Clone(l)
		for k, s := range l {
			shuffles[k].Falls = slices.Clone(s.Falls)
		}
		want := slices.Clone(deck)
		for _, s := range l {
			want = played(want, s)
		}
		out, at, e := verse.Apply(deck, l)
		if !slices.Equal(out, want) || at != 0 || e != api.OK {
			t.Fatal(deck, l, out, at, e)
		}
		back, at, e := verse.Undo(out, l)
		if !slices.Equal(back, deck) || at != 0 || e != api.OK {
			t.Fatal(deck, l, back, at, e)
		}
		before, _, _ := verse.Undo(deck, l)
		if again, _, _ := verse.Apply(before, l); !slices.Equal(again, deck) {
			t.Fatal(deck, l, before, again)
		}
		for k, card := range ok(verse.New(n)) {
			if !slices.Contains(out, card) && !slices.Contains(out, -card) || len(out) != n {
				t.Fatal(k, out)
			}
		}
		part := next(len(l))
		half, _, _ := verse.Apply(deck, l[:part])
		if whole, _, _ := verse.Apply(half, l[part:]); !slices.Equal(whole, out) {
			t.Fatal(deck, l, part, whole)
		}
		if !slices.Equal(deck, was) || !slices.EqualFunc(l, shuffles, func(a, b api.Shuffle) bool {
			return a.Kind == b.Kind && a.N == b.N && slices.Equal(a.Falls, b.Falls)
		}) {
			t.Fatal(deck, was, l, shuffles)
		}
	}
}

// P7.10: what is cut at N and at n - N, or turned twice at N, is as before.
func TestCutAndTurnBack(t *testing.T) {
	next := noise(710)
	for n := range 79 {
		deck := noiseDeck(next, n)
		for at := range n + 1 {
			for _, l := range [][]api.Shuffle{{cut(at), cut(n - at)}, {turn(at), turn(at)}} {
				if out, _, e := verse.Apply(deck, l); !slices.Equal(out, deck) || e != api.OK {
					t.Fatal(deck, l, out, e)
				}
				if out, _, e := verse.Undo(deck, l); !slices.Equal(out, deck) || e != api.OK {
					t.Fatal(deck, l, out, e)
				}
			}
		}
	}
}

// noDecks are lists that are no decks.
func noDecks() [][]int {
	l := [][]int{{0}, {2}, {-2}, {1, 1}, {1, -1}, {-1, -1}, {1, 0}, {0, 1}, {1, 3}, {2, 3}, {3, 1, 1}, {1, 2, 4}, {1, 2, -2}, {1, 2, 3, 4, 4}, make([]int, 78), make([]int, 79)}
	for _, n := range extremes() {
		l = append(l, []int{n}, []int{1, n}, []int{n, 2, 1})
	}
	for _, n := range []int{79, 80, 1000} {
		deck := make([]int, n)
		for k := range deck {
			deck[k] = k + 1
		}
		l = append(l, deck)
	}
	return l
}

// P7.5: no deck, then too many shuffles, then the first one that can not be made.
func TestShuffleErrors(t *testing.T) {
	many := make([]api.Shuffle, 61)
	both := func(deck []int, l []api.Shuffle, wantAt int, want api.Errno) {
		t.Helper()
		out, at, e := verse.Apply(deck, l)
		if len(out) != 0 || at != wantAt || e != want {
			t.Error(deck, l, out, at, e)
		}
		out, at, e = verse.Undo(deck, l)
		if len(out) != 0 || at != wantAt || e != want {
			t.Error(deck, l, out, at, e)
		}
	}
	for _, deck := range noDecks() {
		for _, l := range [][]api.Shuffle{nil, {cut(0)}, {cut(-1)}, {cut(0), {}}, many} {
			both(deck, l, 0, api.ErrArg)
		}
	}
	for _, deck := range [][]int{nil, {1}, {-2, 1}} {
		both(deck, many, 0, api.ErrLong)
		both(deck, slices.Repeat([]api.Shuffle{cut(0)}, 61), 0, api.ErrLong)
		both(deck, slices.Repeat([]api.Shuffle{cut(0)}, 5000), 0, api.ErrLong)
		for at := range 60 {
			l := slices.Repeat([]api.Shuffle{cut(0), deal(1), turn(0)}, 20)
			l[at] = cut(3)
			both(deck, l, at, api.ErrShuffle)
			l[59] = api.Shuffle{}
			both(deck, l, at, api.ErrShuffle)
		}
	}
	both(nil, []api.Shuffle{cut(0), riffle(0), deal(1), deal(0)}, 3, api.ErrShuffle)
	both(nil, []api.Shuffle{deal(1), deal(2)}, 1, api.ErrShuffle)
	both(nil, []api.Shuffle{turn(0), riffle(0, true)}, 1, api.ErrShuffle)
	if out, at, e := verse.Apply([]int{2, -1}, slices.Repeat([]api.Shuffle{cut(1)}, 60)); !slices.Equal(out, []int{2, -1}) || at != 0 || e != api.OK {
		t.Error(out, at, e)
	}
}

// R4: decks are new memory, also after no shuffle.
func TestDeckMemory(t *testing.T) {
	for _, l := range [][]api.Shuffle{nil, {}, {cut(0)}, {cut(3)}, {turn(0)}, {riffle(3, false, false, false)}, {riffle(0, true, true, true)}} {
		for _, call := range []func([]int, []api.Shuffle) ([]int, int, api.Errno){verse.Apply, verse.Undo} {
			deck := []int{3, -1, 2}
			out, at, e := call(deck, l)
			if !slices.Equal(out, deck) || at != 0 || e != api.OK {
				t.Error(l, out, at, e)
			}
			clear(out[:cap(out)])
			if !slices.Equal(deck, []int{3, -1, 2}) {
				t.Error(l, deck)
			}
		}
	}
	deck := ok(verse.New(3))
	clear(deck)
	if again := ok(verse.New(3)); !slices.Equal(again, []int{1, 2, 3}) {
		t.Error(again)
	}
}

// The fourth and the fifth example of the chapter.
func TestExamplesOfShuffles(t *testing.T) {
	five := []int{1, 2, 3, 4, 5}
	for _, c := range []struct {
		s    api.Shuffle
		want []int
	}{
		{cut(2), []int{3, 4, 5, 1, 2}},
		{turn(3), []int{-3, -2, -1, 4, 5}},
		{deal(2), []int{4, 2, 5, 3, 1}},
		{riffle(2, true, false, true, true, false), []int{3, 1, 4, 5, 2}},
	} {
		if out, at, e := verse.Apply(five, []api.Shuffle{c.s}); !slices.Equal(out, c.want) || at != 0 || e != api.OK {
			t.Error(c, out, at, e)
		}
		if out, at, e := verse.Undo(c.want, []api.Shuffle{c.s}); !slices.Equal(out, five) || at != 0 || e != api.OK {
			t.Error(c, out, at, e)
		}
	}
}

// P7.6: what is drawn at any places of any deck.
func TestDraw(t *testing.T) {
	next := noise(76)
	for range 400 {
		b := noiseBook(next, 9)
		n := len(b.Verses)
		deck, places := noiseDeck(next, n), noiseDeck(next, n)[:next(n)]
		var want []api.Drawn
		for i := range places {
			places[i] = max(places[i], -places[i]) - 1
			card := deck[places[i]]
			d := api.Drawn{Card: card, Key: b.Verses[max(card, -card)-1].Key, Text: b.Verses[max(card, -card)-1].Layers[0].Text}
			if card < 0 {
				of := b.Verses[-card-1].Layers
				d.Card, d.Reversed, d.Text = -card, true, of[len(of)-1].Text
			}
			want = append(want, d)
		}
		was, wasDeck, wasPlaces := copied(b), slices.Clone(deck), slices.Clone(places)
		l, e := verse.Draw(b, deck, places)
		if !slices.Equal(l, want) || e != api.OK {
			t.Fatal(b, deck, places, l, e)
		}
		if !equal(b, was) || !slices.Equal(deck, wasDeck) || !slices.Equal(places, wasPlaces) {
			t.Fatal(b, deck, places)
		}
	}
	b := great()
	b.Verses = b.Verses[:78]
	for i := range b.Verses {
		b.Verses[i].Sees = nil
	}
	places := ok(verse.New(78))
	for i := range places {
		places[i]--
	}
	if l, e := verse.Draw(b, ok(verse.New(78)), places); len(l) != 78 || e != api.OK {
		t.Error(l, e)
	}
}

// P7.6: no deck, or one of another book, then too many places, then place by place.
func TestDrawErrors(t *testing.T) {
	far := make([]int, 79)
	far[0] = -1
	for _, deck := range append(noDecks(), nil, []int{1}, []int{-1}, []int{1, 2, 3}, []int{3, -1, 2, 4}) {
		for _, places := range [][]int{nil, {0}, {-1}, {0, 0}, far} {
			if l, e := verse.Draw(example(), deck, places); len(l) != 0 || e != api.ErrArg {
				t.Error(deck, places, l, e)
			}
		}
	}
	for i, c := range []struct {
		places []int
		e      api.Errno
	}{
		{far, api.ErrLong}, {make([]int, 79), api.ErrLong}, {slices.Repeat([]int{-1}, 4000), api.ErrLong}, {make([]int, 78), api.ErrTwice}, {slices.Repeat([]int{2}, 78), api.ErrRange},
		{[]int{-1}, api.ErrRange}, {[]int{2}, api.ErrRange}, {[]int{0, 2}, api.ErrRange}, {[]int{0, 1, 2}, api.ErrRange}, {[]int{2, 0, 0}, api.ErrRange}, {[]int{0, -1, 0}, api.ErrRange}, {[]int{0, 1, 78}, api.ErrRange}, {[]int{0, math.MinInt}, api.ErrRange}, {[]int{1, math.MaxInt}, api.ErrRange},
		{[]int{0, 0}, api.ErrTwice}, {[]int{1, 1}, api.ErrTwice}, {[]int{0, 1, 0}, api.ErrTwice}, {[]int{0, 0, 2}, api.ErrTwice}, {[]int{1, 0, 1, -1}, api.ErrTwice},
		{nil, api.OK}, {[]int{}, api.OK}, {[]int{0}, api.OK}, {[]int{1, 0}, api.OK},
	} {
		if l, e := verse.Draw(example(), []int{2, -1}, c.places); e != c.e || e != api.OK && len(l) != 0 || e == api.OK && len(l) != len(c.places) {
			t.Error(i, l, e)
		}
	}
	if l, e := verse.Draw(api.VerseBook{Name: "n"}, nil, nil); len(l) != 0 || e != api.OK {
		t.Error(l, e)
	}
	if l, e := verse.Draw(api.VerseBook{Name: "n"}, nil, []int{0}); len(l) != 0 || e != api.ErrRange {
		t.Error(l, e)
	}
	if l, e := verse.Draw(great(), ok(verse.New(78)), nil); len(l) != 0 || e != api.ErrArg {
		t.Error(l, e)
	}
}

// The sixth example of the chapter.
func TestExampleOfDraw(t *testing.T) {
	want := []api.Drawn{{Card: 1, Key: "a1", Text: "go"}, {Card: 2, Reversed: true, Key: "b2", Text: "wait a while"}}
	if l, e := verse.Draw(example(), []int{-2, 1}, []int{1, 0}); !slices.Equal(l, want) || e != api.OK {
		t.Error(l, e)
	}
}

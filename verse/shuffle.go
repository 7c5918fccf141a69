package verse

import (
	"slices"

	"astragal/api"
	"astragal/whole"
)

// checkShuffles returns the error of a deck and of shuffles, and the first one that can not be made.
func checkShuffles(deck []int, l []api.Shuffle) (at int, e api.Errno) {
	if !isDeck(deck) {
		return 0, api.ErrArg
	}
	if len(l) > api.MaxShuffles {
		return 0, api.ErrLong
	}
	invalid := func(s api.Shuffle) bool { return !validShuffle(s, len(deck)) }
	if at := slices.IndexFunc(l, invalid); at >= 0 {
		return at, api.ErrShuffle
	}
	return 0, api.OK
}

// validShuffle reports whether a shuffle can be made with so many cards.
func validShuffle(s api.Shuffle, cards int) bool {
	switch s.Kind {
	case api.CutAt, api.TurnTop:
		return !whole.Outside(0, cards)(s.N) && len(s.Falls) == 0
	case api.Riffle:
		return counts(s.Falls) == [2]int{s.N, cards - s.N}
	case api.Deal:
		return !whole.Outside(1, max(cards, 1))(s.N) && len(s.Falls) == 0
	}
	return false
}

// counts returns how many cards of a riffle are of the first ones, and how many of the others.
func counts(falls []bool) [2]int {
	n := [2]int{}
	for _, other := range falls {
		n[part(other)]++
	}
	return n
}

// shuffled returns a deck after a shuffle.
func shuffled(deck []int, s api.Shuffle) []int {
	switch s.Kind {
	case api.CutAt:
		return slices.Concat(deck[s.N:], deck[:s.N])
	case api.TurnTop:
		return turned(deck, s.N)
	case api.Riffle:
		return riffled(deck, s)
	}
	return dealt(deck, s.N)
}

// undone returns a deck before a shuffle.
func undone(deck []int, s api.Shuffle) []int {
	before := make([]int, len(deck))
	// What the shuffle makes of the cards in order tells where each card was, and whether it was turned.
	for place, was := range shuffled(ordered(len(deck)), s) {
		card := deck[place]
		if was < 0 {
			card = -card
		}
		before[number(was)-1] = card
	}
	return before
}

// turned returns a deck with the first n cards turned round in one pile.
func turned(deck []int, n int) []int {
	out := slices.Clone(deck)
	slices.Reverse(out[:n])
	for k := range n {
		out[k] = -out[k]
	}
	return out
}

// riffled returns a deck after a riffle.
func riffled(deck []int, s api.Shuffle) []int {
	var out []int
	parts := [2][]int{deck[:s.N], deck[s.N:]}
	for _, other := range s.Falls {
		p := part(other)
		out = append(out, parts[p][0])
		parts[p] = parts[p][1:]
	}
	return out
}

// part returns the number of a part of a riffle: 0 for the first cards, 1 for the others.
func part(other bool) int {
	if other {
		return 1
	}
	return 0
}

// dealt returns a deck after it is dealt to n piles.
func dealt(deck []int, n int) []int {
	piles := make([][]int, n)
	for k, card := range deck {
		piles[k%n] = append(piles[k%n], card)
	}
	// Each card lies on those that its pile had before, and each pile on those before it: what came last is on top.
	out := slices.Concat(piles...)
	slices.Reverse(out)
	return out
}

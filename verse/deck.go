package verse

import (
	"slices"

	"astragal/api"
	"astragal/whole"
)

// New returns a deck in order.
func New(cards int) ([]int, api.Errno) {
	if whole.Outside(0, api.MaxDeck)(cards) {
		return nil, api.ErrRange
	}
	return ordered(cards), api.OK
}

// Apply shuffles a deck.
func Apply(deck []int, l []api.Shuffle) (out []int, at int, e api.Errno) {
	if at, e := checkShuffles(deck, l); e != api.OK {
		return nil, at, e
	}
	out = slices.Clone(deck)
	for _, s := range l {
		out = shuffled(out, s)
	}
	return out, 0, api.OK
}

// Undo returns the deck that is shuffled to another one.
func Undo(deck []int, l []api.Shuffle) (out []int, at int, e api.Errno) {
	if at, e := checkShuffles(deck, l); e != api.OK {
		return nil, at, e
	}
	out = slices.Clone(deck)
	for _, s := range slices.Backward(l) {
		out = undone(out, s)
	}
	return out, 0, api.OK
}

// ordered returns the deck with so many cards in order.
func ordered(cards int) []int {
	deck := make([]int, cards)
	for k := range cards {
		deck[k] = k + 1
	}
	return deck
}

// isDeck reports whether a list is a deck.
func isDeck(l []int) bool {
	if len(l) > api.MaxDeck {
		return false
	}
	seen := [api.MaxDeck + 1]bool{0: true} // no card has the number 0
	for _, card := range l {
		if whole.Outside(-len(l), len(l))(card) || seen[number(card)] {
			return false
		}
		seen[number(card)] = true
	}
	return true
}

// number returns the number of a card, which lies upright or reversed.
func number(card int) int { return max(card, -card) }

package verse

import (
	"astragal/api"
	"astragal/whole"
)

// Draw returns what is drawn at some places of a deck.
func Draw(b api.VerseBook, deck []int, places []int) ([]api.Drawn, api.Errno) {
	if e := Check(b); e != api.OK {
		return nil, e
	}
	if !isDeck(deck) || len(deck) != len(b.Verses) {
		return nil, api.ErrArg
	}
	if len(places) > api.MaxDeck {
		return nil, api.ErrLong
	}
	var drawn []api.Drawn
	seen := [api.MaxDeck]bool{}
	for _, place := range places {
		if whole.Outside(0, len(deck)-1)(place) {
			return nil, api.ErrRange
		}
		if seen[place] {
			return nil, api.ErrTwice
		}
		seen[place] = true
		drawn = append(drawn, shown(b, deck[place]))
	}
	return drawn, api.OK
}

// shown returns what a card shows of a book.
func shown(b api.VerseBook, card int) api.Drawn {
	v := verse{b.Verses[number(card)-1]}
	reversed := card < 0
	return api.Drawn{Card: number(card), Reversed: reversed, Key: v.Key, Text: v.text(reversed)}
}

// text returns the text of the layer that an upright card shows, or a reversed one.
func (v verse) text(reversed bool) string {
	layer := 0
	if reversed {
		layer = len(v.Layers) - 1
	}
	return v.Layers[layer].Text
}

package bureau

import (
	"maps"
	"slices"

	"astragal/api"
	"astragal/habit"
	"astragal/hand"
	"astragal/odds"
)

// kept is a hand that is kept, and the outcomes of its casts.
type kept struct {
	api.Hand
	register []int
}

// keeping returns what keeps a hand under the name that comes first; the other words set its fields.
func keeping(set func(*kept, []word)) deed {
	return func(b *Bureau, w []word) (string, api.Errno) {
		name, k := w[0].text, new(kept)
		set(k, w[1:])
		if e := b.hands.room(name, api.MaxHands); e != api.OK {
			return "", e
		}
		outcomes, e := hand.Outcomes(k.Hand)
		if e != api.OK {
			return "", e
		}
		b.hands.put(name, k)
		return answer(api.OK, number(outcomes))
	}
}

// throw makes a hand one of pieces that are thrown.
func (k *kept) throw(w []word) {
	k.Kind, k.Count, k.Faces = api.HandThrow, w[0].number, w[1].faces
}

// marks makes a hand one of marks in the sand.
func (k *kept) marks(w []word) {
	k.Kind, k.Low, k.High = api.HandMarks, w[0].number, w[1].number
}

// stalks makes a hand one of stalks that are divided.
func (k *kept) stalks(w []word) {
	k.Kind, k.Count, k.Group, k.Changes = api.HandStalks, w[0].number, w[1].number, w[2].number
}

// draw makes a hand one of cards that are drawn.
func (k *kept) draw(w []word) {
	k.Kind, k.Count, k.Cards = api.HandDraw, w[0].number, w[1].numbers
}

// cut makes a hand one of a deck that is cut.
func (k *kept) cut(w []word) {
	k.Kind, k.Cards = api.HandCut, w[0].numbers
}

// asking returns what asks the hand of the name that comes first, with the other words.
func asking(ask func(*kept, []word) (string, api.Errno)) deed {
	return func(b *Bureau, w []word) (string, api.Errno) {
		k, e := b.hands.find(w[0].text)
		if e != api.OK {
			return "", e
		}
		return ask(k, w[1:])
	}
}

// cast carries out a course, and registers its outcome.
func (k *kept) cast(w []word) (string, api.Errno) {
	outcome, _, e := hand.Run(k.Hand, w[0].numbers)
	switch {
	case e != api.OK:
		return "", e
	case len(k.register) >= api.MaxCasts:
		return "", api.ErrFull
	}
	k.register = append(k.register, outcome)
	return answer(api.OK, number(outcome))
}

// weights tells the weights of all outcomes.
func (k *kept) weights([]word) (string, api.Errno) {
	l, e := hand.Weights(k.Hand)
	return answer(e, list(l))
}

// chance tells the chance of outcomes.
func (k *kept) chance(w []word) (string, api.Errno) {
	l, e := hand.Weights(k.Hand)
	if e != api.OK {
		return "", e
	}
	c, e := odds.Of(l, w[0].numbers)
	return answer(e, numbers("/", c.Num, c.Den))
}

// tally tells how often each outcome was cast.
func (k *kept) tally([]word) (string, api.Errno) {
	times := map[int]int{}
	for _, outcome := range k.register {
		times[outcome]++
	}
	var words []string
	for _, outcome := range slices.Sorted(maps.Keys(times)) {
		words = append(words, numbers(":", outcome, times[outcome]))
	}
	return answer(api.OK, words...)
}

// evidence tells which of two hands explains the register of the first one better.
func (b *Bureau) evidence(w []word) (string, api.Errno) {
	k, e := b.hands.find(w[0].text)
	if e != api.OK {
		return "", e
	}
	other, e := b.hands.find(w[1].text)
	if e != api.OK {
		return "", e
	}
	first, e := k.model()
	if e != api.OK {
		return "", e
	}
	second, e := other.model()
	if e != api.OK {
		return "", e
	}
	n, e := habit.Compare(first, second, k.register)
	return answer(e, number(n))
}

// model returns the model by which a hand casts.
func (k *kept) model() (api.Model, api.Errno) {
	l, e := hand.Weights(k.Hand)
	return api.Model{Kind: api.Steady, Rows: [][]int{l}}, e
}

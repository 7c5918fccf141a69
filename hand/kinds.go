package hand

import (
	"iter"
	"math/bits"

	"astragal/api"
)

// thrown is how many pieces are left to throw, and the sum of the values of the others.
type thrown struct {
	left, sum int
}

func (s thrown) choices(h api.Hand) int {
	if s.left == 0 {
		return 0
	}
	n := 0
	for _, f := range h.Faces {
		n += f.Weight
	}
	return n
}

func (s thrown) branches(h api.Hand) iter.Seq2[state, int] {
	return func(yield func(state, int) bool) {
		for _, f := range h.Faces {
			if !yield(thrown{s.left - 1, s.sum + f.Value}, f.Weight) {
				return
			}
		}
	}
}

func (s thrown) open(_ api.Hand, outcome int) bool { return s.sum <= outcome }

func (s thrown) outcome(api.Hand) int { return s.sum }

// marks is how many marks were made, 0 if none are yet.
type marks int

func (s marks) choices(h api.Hand) int {
	if s > 0 {
		return 0
	}
	return h.High - h.Low + 1
}

func (s marks) branches(h api.Hand) iter.Seq2[state, int] {
	return func(yield func(state, int) bool) {
		for n := h.Low; n <= h.High; n++ {
			if !yield(marks(n), 1) {
				return
			}
		}
	}
}

func (s marks) open(api.Hand, int) bool { return true }

func (s marks) outcome(api.Hand) int { return int(s) % 2 }

// stalks is how often stalks are still to be divided, and how many there are.
type stalks struct {
	left, count int
}

func (s stalks) choices(api.Hand) int {
	if s.left == 0 {
		return 0
	}
	return s.count - 2
}

func (s stalks) branches(h api.Hand) iter.Seq2[state, int] {
	return func(yield func(state, int) bool) {
		for heap := 1; heap <= s.count-2; heap++ {
			other := s.count - 1 - heap
			if !yield(stalks{s.left - 1, counted(heap, h.Group) + counted(other, h.Group)}, 1) {
				return
			}
		}
	}
}

func (s stalks) open(h api.Hand, outcome int) bool { return s.outcome(h) >= outcome }

func (s stalks) outcome(h api.Hand) int { return s.count / h.Group }

// counted returns how many stalks of a heap, which has some, remain if it is counted off by groups, of which the last one is laid aside, whole or not.
func counted(heap, group int) int {
	return (heap - 1) / group * group
}

// drawn is how many cards are still to be drawn, a set of bits of those that were, and the digits of their kinds.
type drawn struct {
	left, taken, kinds int
}

func (s drawn) choices(h api.Hand) int {
	if s.left == 0 {
		return 0
	}
	return len(h.Cards) - bits.OnesCount(uint(s.taken))
}

func (s drawn) branches(h api.Hand) iter.Seq2[state, int] {
	return func(yield func(state, int) bool) {
		for k, kind := range h.Cards {
			if card := 1 << k; s.taken&card == 0 && !yield(drawn{s.left - 1, s.taken | card, s.kinds*api.MaxKinds + kind}, 1) {
				return
			}
		}
	}
}

func (s drawn) open(_ api.Hand, outcome int) bool {
	for range s.left {
		outcome /= api.MaxKinds
	}
	return s.kinds == outcome
}

func (s drawn) outcome(api.Hand) int { return s.kinds }

// cut is the card that is on top, counted from 1 on, 0 if the deck is not cut yet.
type cut int

func (s cut) choices(h api.Hand) int {
	if s > 0 {
		return 0
	}
	return len(h.Cards)
}

func (s cut) branches(h api.Hand) iter.Seq2[state, int] {
	return func(yield func(state, int) bool) {
		for k := range h.Cards {
			if !yield(cut(k+1), 1) {
				return
			}
		}
	}
}

func (s cut) open(api.Hand, int) bool { return true }

func (s cut) outcome(h api.Hand) int { return h.Cards[s-1] }

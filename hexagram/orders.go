package hexagram

import (
	"slices"

	"astragal/api"
)

// turned has the lines that are turned at each step of a palace, as a hexagram in which they are firm.
var turned = [...]int{0b000000, 0b000001, 0b000011, 0b000111, 0b001111, 0b011111, 0b010111, 0b010000}

// Palace returns the head of the palace of a hexagram, and its step.
func Palace(h int) (head, step int, e api.Errno) {
	if e := check(h); e != api.OK {
		return 0, 0, e
	}
	for !heads(h ^ turned[step]) {
		step++
	}
	return h ^ turned[step], step, api.OK
}

// Broken returns the first place at which an order breaks a rule.
func Broken(order []int, rule api.HexRule) (int, api.Errno) {
	if !complete(order) {
		return 0, api.ErrArg
	}
	keeps := keeping(order, rule)
	if keeps == nil {
		return 0, api.ErrNone
	}
	for k := range order {
		if !keeps(k) {
			return k, api.OK
		}
	}
	return -1, api.OK
}

// complete reports whether an order has each hexagram once.
func complete(order []int) bool {
	if len(order) != api.MaxHexagram+1 || check(order...) != api.OK {
		return false
	}
	sorted := slices.Sorted(slices.Values(order))
	return len(slices.Compact(sorted)) == len(order)
}

// keeping returns the condition that an order keeps a rule at a place; nil if there is no such rule.
func keeping(order []int, rule api.HexRule) func(k int) bool {
	switch rule {
	case api.HexPairs:
		return func(k int) bool { return k%2 == 1 || order[k+1] == partner(order[k]) }
	case api.HexOpposites:
		return func(k int) bool { return order[api.MaxHexagram-k] == operate(order[k], api.HexOpposite) }
	case api.HexPalaces:
		return func(k int) bool {
			step := k % len(turned)
			head := order[k-step]
			return heads(head) && order[k] == head^turned[step]
		}
	}
	return nil
}

// heads reports whether a hexagram is the head of a palace.
func heads(h int) bool { return operate(h, api.HexExchange) == h }

// partner returns a hexagram upside down, or the opposite one, if it is the same upside down.
func partner(h int) int {
	if other := operate(h, api.HexReverse); other != h {
		return other
	}
	return operate(h, api.HexOpposite)
}

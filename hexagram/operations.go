package hexagram

import (
	"iter"
	"slices"

	"astragal/api"
	"astragal/whole"
)

// sources has, for each operation, from which line each line comes.
var sources = [...][height]int{
	api.HexReverse:  {5, 4, 3, 2, 1, 0},
	api.HexOpposite: {0, 1, 2, 3, 4, 5},
	api.HexExchange: {3, 4, 5, 0, 1, 2},
	api.HexNuclear:  {1, 2, 3, 2, 3, 4},
}

// mapping has the hexagram that is made of each one.
type mapping [api.MaxHexagram + 1]int

// Apply applies operations to a hexagram.
func Apply(h int, ops []api.HexOp) (int, api.Errno) {
	if e := check(h); e != api.OK {
		return 0, e
	}
	if e := checkOperations(ops); e != api.OK {
		return 0, e
	}
	return apply(h, ops), api.OK
}

// Chain returns a hexagram, its nuclear one, and so on.
func Chain(h int) (l []int, back int, e api.Errno) {
	if e := check(h); e != api.OK {
		return nil, 0, e
	}
	for back = -1; back < 0; back = slices.Index(l, h) {
		l = append(l, h)
		h = operate(h, api.HexNuclear)
	}
	return l, back, api.OK
}

// Orbit returns all hexagrams that operations make of one.
func Orbit(h, set int) ([]int, api.Errno) {
	if e := check(h); e != api.OK {
		return nil, e
	}
	if e := checkSet(set); e != api.OK {
		return nil, e
	}
	orbit := reached(h, set, func(h int, m *mapping) int { return m[h] })
	slices.Sort(orbit)
	return orbit, api.OK
}

// Maps returns how many maps operations make.
func Maps(set int) (int, api.Errno) {
	if e := checkSet(set); e != api.OK {
		return 0, e
	}
	same := mapped(func(h int) int { return h })
	return len(reached(same, set, followed)), api.OK
}

// checkOperations returns the error of a list of operations.
func checkOperations(ops []api.HexOp) api.Errno {
	if len(ops) > api.MaxOps {
		return api.ErrLong
	}
	if slices.ContainsFunc(ops, whole.Outside(api.HexReverse, api.HexNuclear)) {
		return api.ErrArg
	}
	return api.OK
}

// checkSet returns the error of a set of operations.
func checkSet(set int) api.Errno {
	if whole.Outside(0, 1<<len(sources)-1)(set) {
		return api.ErrArg
	}
	return api.OK
}

// operate applies one operation.
func operate(h int, op api.HexOp) int {
	return hexagram(func(line int) bool { return firm(h, sources[op][line]) != (op == api.HexOpposite) })
}

// apply applies operations, one after another.
func apply(h int, ops []api.HexOp) int {
	for _, op := range ops {
		h = operate(h, op)
	}
	return h
}

// mapped returns the map of all hexagrams by what is made of one.
func mapped(to func(h int) int) mapping {
	m := mapping{}
	for h := range m {
		m[h] = to(h)
	}
	return m
}

// followed returns a map with another one after it.
func followed(first mapping, second *mapping) mapping {
	return mapped(func(h int) int { return second[first[h]] })
}

// maps yields the maps of the operations of a set.
func maps(set int) iter.Seq[mapping] {
	return func(yield func(mapping) bool) {
		for op := range api.HexOp(len(sources)) {
			if set>>op&1 == 0 {
				continue
			}
			if !yield(mapped(func(h int) int { return operate(h, op) })) {
				return
			}
		}
	}
}

// reached returns the first element and all that the operations of a set make of it, in the order in which it is found.
func reached[T comparable](first T, set int, then func(T, *mapping) T) []T {
	found, seen := []T{first}, map[T]bool{first: true}
	for k := 0; k < len(found); k++ {
		for m := range maps(set) {
			next := then(found[k], &m)
			if seen[next] {
				continue
			}
			seen[next] = true
			found = append(found, next)
		}
	}
	return found
}

package hexagram_test

import (
	"math"

	"astragal/api"
)

// ok returns the result of a call that has no error.
func ok[T any](x T, e api.Errno) T {
	if e != api.OK {
		panic(e)
	}
	return x
}

// noise returns numbers from 0 to most that follow no simple rule, and the same ones for the same seed.
func noise(seed uint64) func(most int) int {
	return func(most int) int {
		seed = seed*6364136223846793005 + 1442695040888963407
		return int((seed >> 16) % uint64(most+1))
	}
}

// noiseSet returns a set of hexagrams that follows no simple rule, with about one of so many in it.
func noiseSet(next func(int) int, of int) uint64 {
	set := uint64(0)
	for h := range 64 {
		if next(of-1) == 0 {
			set |= 1 << h
		}
	}
	return set
}

// noHexagrams are numbers of no hexagram.
func noHexagrams() []int { return []int{math.MinInt, -64, -1, 64, 65, 128, 1 << 32, math.MaxInt} }

// noOperations are numbers of no operation.
func noOperations() []api.HexOp { return []api.HexOp{math.MinInt, -1, 4, 5, 1 << 32, math.MaxInt} }

// drawn has the lines of a hexagram from the bottom on: true is firm.
type drawn [6]bool

// draw draws a hexagram, as the document tells its lines.
func draw(h int) drawn {
	d := drawn{}
	for i, worth := range []int{1, 2, 4, 8, 16, 32} {
		d[i] = h/worth%2 == 1
	}
	return d
}

// number returns the hexagram that is drawn.
func (d drawn) number() int {
	h := 0
	for i, worth := range []int{1, 2, 4, 8, 16, 32} {
		if d[i] {
			h += worth
		}
	}
	return h
}

// turned returns what is drawn with some lines turned.
func (d drawn) turned(lines ...int) drawn {
	for _, i := range lines {
		d[i] = !d[i]
	}
	return d
}

// made returns what an operation makes of what is drawn.
func (d drawn) made(op api.HexOp) drawn {
	switch op {
	case api.HexReverse:
		return drawn{d[5], d[4], d[3], d[2], d[1], d[0]}
	case api.HexOpposite:
		return drawn{!d[0], !d[1], !d[2], !d[3], !d[4], !d[5]}
	case api.HexExchange:
		return drawn{d[3], d[4], d[5], d[0], d[1], d[2]}
	case api.HexNuclear:
		return drawn{d[1], d[2], d[3], d[2], d[3], d[4]}
	}
	panic(op)
}

// made returns what operations make of a hexagram, one after another.
func made(h int, ops ...api.HexOp) int {
	d := draw(h)
	for _, op := range ops {
		d = d.made(op)
	}
	return d.number()
}

// everyCast yields all casts, their first hexagrams and their second ones.
func everyCast(yield func([6]int, [2]int) bool) {
	for number := range 4096 {
		lines, first, second := [6]int{}, drawn{}, drawn{}
		for i := range lines {
			lines[i] = 6 + number%4
			number /= 4
			switch lines[i] {
			case 6:
				second[i] = true
			case 7:
				first[i], second[i] = true, true
			case 9:
				first[i] = true
			}
		}
		if !yield(lines, [2]int{first.number(), second.number()}) {
			return
		}
	}
}

// ofSet lists the hexagrams of a set in ascending order.
func ofSet(set uint64) []int {
	var l []int
	for h := range 64 {
		if set%2 == 1 {
			l = append(l, h)
		}
		set /= 2
	}
	return l
}

// setOf returns the set of some hexagrams.
func setOf(l ...int) uint64 {
	set := uint64(0)
	for _, h := range l {
		set |= 1 << h
	}
	return set
}

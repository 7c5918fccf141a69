package hexagram

import (
	"slices"
	"strings"

	"astragal/api"
	"astragal/whole"
)

// What a pattern says of a line.
const (
	asked = "01?" // in the order of texts
	zero  = '0'
	one   = '1'
	open  = '?'
)

// firmSets has, for each line, the set of the hexagrams in which it is firm.
var firmSets = [height]uint64{
	0xAAAAAAAAAAAAAAAA,
	0xCCCCCCCCCCCCCCCC,
	0xF0F0F0F0F0F0F0F0,
	0xFF00FF00FF00FF00,
	0xFFFF0000FFFF0000,
	0xFFFFFFFF00000000,
}

// Where returns the set of the hexagrams that match one of some patterns.
func Where(patterns []string) (uint64, api.Errno) {
	if len(patterns) > api.MaxPatterns {
		return 0, api.ErrLong
	}
	if slices.ContainsFunc(patterns, noPattern) {
		return 0, api.ErrForm
	}
	set := uint64(0)
	for _, p := range patterns {
		set |= matching(p)
	}
	return set, api.OK
}

// Patterns returns the greatest patterns whose hexagrams are all in a set.
func Patterns(set uint64) []string {
	var greatest []string
	for p := range patterns {
		if own := matching(p); within(own, set) && !grows(p, own, set) {
			greatest = append(greatest, p)
		}
	}
	return greatest
}

// Image returns what operations make of a set.
func Image(set uint64, ops []api.HexOp) (uint64, api.Errno) {
	if e := checkOperations(ops); e != api.OK {
		return 0, e
	}
	image := uint64(0)
	for h := range api.MaxHexagram + 1 {
		if within(1<<h, set) {
			image |= 1 << apply(h, ops)
		}
	}
	return image, api.OK
}

// Near returns the hexagrams that are not far from a set.
func Near(set uint64, lines int) (uint64, api.Errno) {
	if whole.Outside(0, height)(lines) {
		return 0, api.ErrRange
	}
	for range lines {
		nearer := set
		for line := range height {
			nearer |= turnedIn(set, line)
		}
		set = nearer
	}
	return set, api.OK
}

// noPattern reports whether a text is not a pattern.
func noPattern(text string) bool {
	return len(text) != height || strings.Trim(text, asked) != ""
}

// patterns yields all patterns in ascending order.
func patterns(yield func(string) bool) {
	all := 1
	for range height {
		all *= len(asked)
	}
	for number := range all {
		text, rest := [height]byte{}, number
		for line := height - 1; line >= 0; line-- {
			text[line] = asked[rest%len(asked)]
			rest /= len(asked)
		}
		if !yield(string(text[:])) {
			return
		}
	}
}

// matching returns the set of a pattern.
func matching(pattern string) uint64 {
	set := ^uint64(0)
	for line := range height {
		switch pattern[line] {
		case one:
			set &= firmSets[line]
		case zero:
			set &^= firmSets[line]
		}
	}
	return set
}

// grows reports whether the set of a pattern still lies in another one if any line more may be as it likes.
func grows(pattern string, own, set uint64) bool {
	for line := range height {
		if pattern[line] != open && within(turnedIn(own, line), set) {
			return true
		}
	}
	return false
}

// within reports whether a set lies in another one.
func within(own, set uint64) bool { return own&^set == 0 }

// turnedIn returns what the hexagrams of a set are with one line turned.
func turnedIn(set uint64, line int) uint64 {
	firm, by := firmSets[line], 1<<line
	return set&firm>>by | set&^firm<<by
}

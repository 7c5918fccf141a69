package bureau

import (
	"strconv"
	"strings"

	"astragal/api"
)

const (
	none = "-"  // what is written where a list is empty
	done = "ok" // the answer of a line that has nothing to tell
)

// answer returns the answer that some words make, but none beside an error.
func answer(e api.Errno, words ...string) (string, api.Errno) {
	if e != api.OK {
		return "", e
	}
	return join(" ", words...), api.OK
}

// join writes words with something between them, or that there are none.
func join(between string, words ...string) string {
	if len(words) == 0 {
		return none
	}
	return strings.Join(words, between)
}

// numbers writes numbers with something between them, or that there are none.
func numbers(between string, l ...int) string {
	var words []string
	for _, n := range l {
		words = append(words, strconv.Itoa(n))
	}
	return join(between, words...)
}

// number writes a number.
func number(n int) string { return strconv.Itoa(n) }

// list writes a list of numbers.
func list(l []int) string { return numbers(",", l...) }

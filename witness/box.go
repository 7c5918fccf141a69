package witness

import (
	"slices"
	"strconv"
	"strings"

	"astragal/api"
)

// The numbers of the hash, and how many digits it is written in.
const (
	hashStart  uint64 = 14695981039346656037
	hashFactor uint64 = 1099511628211
	hashDigits        = 16
)

// Hash returns the hash of a text.
func Hash(s string) (string, api.Errno) {
	if len(s) > api.MaxHashed {
		return "", api.ErrLong
	}
	return hashOf(s), api.OK
}

// Seal returns the hash by which a box is sealed.
func Seal(b api.Box) (string, api.Errno) {
	if !validBox(b) {
		return "", api.ErrArg
	}
	return hashOf(textOf(b)), api.OK
}

// Guess returns the first box with a hash, by trying salts and values.
func Guess(hash string, person, below int, salts []string) (api.Box, api.Errno) {
	invalid := func(salt string) bool { return !isSalt(salt) }
	switch {
	case !isHash(hash):
		return api.Box{}, api.ErrForm
	case !among(person, 1, api.MaxWitnesses) || !isBelow(below):
		return api.Box{}, api.ErrRange
	case slices.ContainsFunc(salts, invalid):
		return api.Box{}, api.ErrArg
	case len(salts) > api.MaxGuesses/below:
		return api.Box{}, api.ErrFull
	}
	for _, salt := range salts {
		for value := range below {
			b := api.Box{Person: person, Value: value, Salt: salt}
			if hashOf(textOf(b)) == hash {
				return b, api.OK
			}
		}
	}
	return api.Box{}, api.ErrNone
}

// textOf returns the text of a box.
func textOf(b api.Box) string {
	return strconv.Itoa(b.Person) + ":" + strconv.Itoa(b.Value) + ":" + b.Salt
}

// hashOf returns the hash of a text of any length.
func hashOf(s string) string {
	h := hashStart
	for k := range len(s) {
		h = (h ^ uint64(s[k])) * hashFactor
	}
	digits := strconv.FormatUint(h, 16)
	return strings.Repeat("0", hashDigits-len(digits)) + digits
}

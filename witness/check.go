package witness

import (
	"strings"

	"astragal/api"
	"astragal/whole"
)

// validBox reports whether a box is valid.
func validBox(b api.Box) bool {
	return among(b.Person, 1, api.MaxWitnesses) && among(b.Value, 0, api.MaxBelow-1) && isSalt(b.Salt)
}

// isBelow reports whether numbers can be drawn below this one.
func isBelow(n int) bool { return among(n, 1, api.MaxBelow) }

// isSalt reports whether a text can be the salt of a box.
func isSalt(s string) bool { return among(len(s), 1, api.MaxSalt) && isPlain(s, 'z') }

// isHash reports whether a text has the form of a hash.
func isHash(s string) bool { return len(s) == hashDigits && isPlain(s, 'f') }

// isPlain reports whether a text has nothing but digits, and letters from a to a last one.
func isPlain(s string, last rune) bool {
	other := func(c rune) bool { return (c < '0' || c > '9') && (c < 'a' || c > last) }
	return !strings.ContainsFunc(s, other)
}

// among reports whether a number is from low to high.
func among(n, low, high int) bool { return !whole.Outside(low, high)(n) }

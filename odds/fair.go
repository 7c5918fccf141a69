package odds

import (
	"slices"

	"astragal/api"
	"astragal/whole"
)

// Fair returns a value below a number by throws of something with so many sides, and how many throws were used.
func Fair(sides, below int, throws []int) (value, used int, e api.Errno) {
	if whole.Outside(2, api.MaxSides)(sides) || whole.Outside(1, api.MaxSides)(below) {
		return 0, 0, api.ErrRange
	}
	if len(throws) > api.MaxThrows {
		return 0, 0, api.ErrLong
	}
	if slices.ContainsFunc(throws, whole.Outside(0, sides-1)) {
		return 0, 0, api.ErrArg
	}
	return decide(sides, below, throws)
}

// decide is Fair for arguments without an error.
func decide(sides, below int, throws []int) (value, used int, e api.Errno) {
	size := 1
	for {
		// All steps by below at once: there can be half a million of them behind each throw.
		whole := size - size%below
		if value < whole {
			return value % below, used, api.OK
		}
		if used == len(throws) {
			return 0, 0, api.ErrNone
		}
		size, value = (size-whole)*sides, (value-whole)*sides+throws[used]
		used++
	}
}

package verse

import (
	"iter"
	"slices"

	"astragal/api"
)

// net has the verses of a book by their keys.
type net map[string]api.Verse

// Reach returns the keys to which one comes from a verse.
func Reach(b api.VerseBook, key string) ([]string, api.Errno) {
	n, e := enter(b, key)
	if e != api.OK {
		return nil, e
	}
	var keys []string
	for way := range n.ways(key) {
		keys = append(keys, end(way))
	}
	slices.Sort(keys)
	return keys, api.OK
}

// Ring returns the shortest way from a verse back to it.
func Ring(b api.VerseBook, key string) ([]string, api.Errno) {
	n, e := enter(b, key)
	if e != api.OK {
		return nil, e
	}
	for way := range n.ways(key) {
		if end(way) == key {
			return way[:len(way)-1], api.OK
		}
	}
	return nil, api.ErrRing
}

// enter returns the net of a book, or the error of the book, or of a key that no verse has.
func enter(b api.VerseBook, key string) (net, api.Errno) {
	if e := Check(b); e != api.OK {
		return nil, e
	}
	n := net{}
	for _, v := range b.Verses {
		n[v.Key] = v
	}
	if _, there := n[key]; !there {
		return nil, api.ErrNone
	}
	return n, api.OK
}

// ways yields a shortest way from a verse to each one that it reaches; of several the smallest list. It begins with the key of the first verse and ends with that of the last one.
func (n net) ways(from string) iter.Seq[[]string] {
	return func(yield func([]string) bool) {
		reached := map[string]bool{}
		// Ways of the same length are in ascending order here, and so are the references: thus the first way to a verse is the smallest one.
		open := [][]string{{from}}
		for ; len(open) > 0; open = open[1:] {
			for _, key := range n[end(open[0])].Sees {
				if reached[key] {
					continue
				}
				reached[key] = true
				way := append(slices.Clone(open[0]), key)
				if !yield(way) {
					return
				}
				open = append(open, way)
			}
		}
	}
}

// end returns the key with which a way ends.
func end(way []string) string { return way[len(way)-1] }

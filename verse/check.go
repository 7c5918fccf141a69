package verse

import (
	"cmp"
	"strings"

	"astragal/api"
	"astragal/shield"
	"astragal/whole"
)

// verse is a verse of a book, with what is asked of it.
type verse struct{ api.Verse }

// valid reports whether all of a verse is valid, but for its key and for where its references lead.
func (v verse) valid() bool {
	return sound(v.Figures, nextFigure) && sound(v.Sees, nextReference) && len(v.Layers) > 0 && sound(v.Layers, nextLayer)
}

// validBook reports whether a book is valid, but for where its references lead, and how many verses and references it has.
func validBook(b api.VerseBook) bool {
	next := func(before []api.Verse, v api.Verse) bool { return nextVerse(before, v) && verse{v}.valid() }
	return isWord(b.Name, api.MaxTitle) && sound(b.Verses, next)
}

// loose returns the number, from 0 on, of the first of all references of a book that is no key of a verse; -1 if there is none.
func loose(b api.VerseBook) int {
	keys := map[string]bool{}
	for _, v := range b.Verses {
		keys[v.Key] = true
	}
	number := 0
	for _, v := range b.Verses {
		for _, key := range v.Sees {
			if !keys[key] {
				return number
			}
			number++
		}
	}
	return -1
}

// sound reports whether each element of a list can come behind those before it.
func sound[T any](l []T, next func(before []T, x T) bool) bool {
	for k, x := range l {
		if !next(l[:k], x) {
			return false
		}
	}
	return true
}

// greater reports whether an element is greater than the last one of a list, if there is one.
func greater[T any](before []T, x T, compare func(a, b T) int) bool {
	return len(before) == 0 || compare(before[len(before)-1], x) < 0
}

// nextVerse reports whether a verse with this key can come behind others.
func nextVerse(before []api.Verse, v api.Verse) bool {
	byKey := func(a, b api.Verse) int { return strings.Compare(a.Key, b.Key) }
	return isWord(v.Key, api.MaxKey) && greater(before, v, byKey)
}

// nextFigure reports whether a figure can come behind others.
func nextFigure(before []api.Figure, f api.Figure) bool {
	return shield.Check(f) == api.OK && greater(before, f, cmp.Compare)
}

// nextReference reports whether a text can be a reference behind others.
func nextReference(before []string, key string) bool {
	return isWord(key, api.MaxKey) && greater(before, key, strings.Compare)
}

// nextLayer reports whether a layer can come behind others.
func nextLayer(before []api.Layer, l api.Layer) bool {
	byMark := func(a, b api.Layer) int { return cmp.Compare(a.Mark, b.Mark) }
	return isLetter(rune(l.Mark)) && isText(l.Text) && greater(before, l, byMark)
}

// isWord reports whether a text of at most so many bytes has the form of names and keys.
func isWord(s string, most int) bool {
	inside := func(c rune) bool { return isLetter(c) || '0' <= c && c <= '9' || c == '-' }
	return !whole.Outside(1, most)(len(s)) && isLetter(rune(s[0])) && only(s, inside)
}

// isText reports whether a text can be that of a layer.
func isText(s string) bool {
	printed := func(c rune) bool { return ' ' <= c && c <= '~' }
	return !whole.Outside(1, api.MaxLayer)(len(s)) && s[0] != ' ' && s[len(s)-1] != ' ' && only(s, printed)
}

// isLetter reports whether a character is a letter of words and marks.
func isLetter(c rune) bool { return 'a' <= c && c <= 'z' }

// only reports whether a text has none but characters for which a condition holds.
func only(s string, allowed func(rune) bool) bool {
	for _, c := range s {
		if !allowed(c) {
			return false
		}
	}
	return true
}

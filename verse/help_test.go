package verse_test

import (
	"fmt"
	"math"
	"reflect"
	"regexp"
	"slices"
	"strings"

	"astragal/api"
)

// small is the text of the chapter's example.
const small = "@small\n#a1\n=0,15\n>b2\na:go\n#b2\na:stay\nc:wait a while\n"

// example returns the book of the chapter's example.
func example() api.VerseBook {
	return api.VerseBook{Name: "small", Verses: []api.Verse{
		{Key: "a1", Figures: []api.Figure{0, 15}, Sees: []string{"b2"}, Layers: layers("a:go")},
		{Key: "b2", Layers: layers("a:stay", "c:wait a while")},
	}}
}

// layers returns layers as they are written.
func layers(l ...string) []api.Layer {
	var of []api.Layer
	for _, s := range l {
		of = append(of, api.Layer{Mark: s[0], Text: s[2:]})
	}
	return of
}

// plain returns a verse with some references.
func plain(key string, sees ...string) api.Verse {
	return api.Verse{Key: key, Sees: sees, Layers: layers("a:x")}
}

// ok returns the result of a call that has no error.
func ok[T any](x T, e api.Errno) T {
	if e != api.OK {
		panic(e)
	}
	return x
}

// noise returns numbers from 0 to most that follow no simple rule, and the same ones for the same seed.
func noise(seed uint64) func(most int) int {
	return func(most int) int {
		seed = seed*6364136223846793005 + 1442695040888963407
		return int((seed >> 16) % uint64(most+1))
	}
}

// extremes are numbers that are too small or too great for everything.
func extremes() []int {
	return []int{math.MinInt, math.MinInt + 1, math.MinInt32, -201, -79, 79, 201, 1 << 32, math.MaxInt - 1, math.MaxInt}
}

// copied returns a book that shares no memory with another one.
func copied(b api.VerseBook) api.VerseBook {
	b.Verses = slices.Clone(b.Verses)
	for i, v := range b.Verses {
		b.Verses[i].Figures, b.Verses[i].Sees, b.Verses[i].Layers = slices.Clone(v.Figures), slices.Clone(v.Sees), slices.Clone(v.Layers)
	}
	return b
}

// spoilt changes all that a book has in its memory.
func spoilt(b api.VerseBook) {
	for _, v := range b.Verses {
		for i := range v.Figures[:cap(v.Figures)] {
			v.Figures[:cap(v.Figures)][i] = -7
		}
		for i := range v.Sees[:cap(v.Sees)] {
			v.Sees[:cap(v.Sees)][i] = "spoilt"
		}
		for i := range v.Layers[:cap(v.Layers)] {
			v.Layers[:cap(v.Layers)][i] = api.Layer{Mark: 's', Text: "spoilt"}
		}
	}
	clear(b.Verses[:cap(b.Verses)])
}

// equal reports whether two books are the same: nil lists and empty ones are.
func equal(a, b api.VerseBook) bool {
	return a.Name == b.Name && slices.EqualFunc(a.Verses, b.Verses, func(v, w api.Verse) bool {
		return v.Key == w.Key && slices.Equal(v.Figures, w.Figures) && slices.Equal(v.Sees, w.Sees) && slices.Equal(v.Layers, w.Layers)
	})
}

// none reports whether a book is the zero value.
func none(b api.VerseBook) bool { return b.Name == "" && len(b.Verses) == 0 }

// ascending reports whether each element is greater than that before it.
func ascending[T int | string](l ...T) bool {
	for i := 1; i < len(l); i++ {
		if l[i] <= l[i-1] {
			return false
		}
	}
	return true
}

var (
	names = regexp.MustCompile(`\A[a-z][a-z0-9-]{0,19}\z`)
	keys  = regexp.MustCompile(`\A[a-z][a-z0-9-]{0,11}\z`)
	texts = regexp.MustCompile(`\A[!-~]([ -~]{0,78}[!-~])?\z`)
)

// valid reports whether a book is valid in the document's words, but for how much there is of everything, and for the verses of its references.
func valid(b api.VerseBook) bool {
	var all []string
	for _, v := range b.Verses {
		all = append(all, v.Key)
		var figures []int
		for _, f := range v.Figures {
			figures = append(figures, int(f))
		}
		if !ascending(figures...) || len(figures) > 0 && (slices.Min(figures) < 0 || slices.Max(figures) > 15) {
			return false
		}
		var marks []string
		for _, l := range v.Layers {
			marks = append(marks, string([]byte{l.Mark}))
			if l.Mark < 'a' || l.Mark > 'z' || !texts.MatchString(l.Text) {
				return false
			}
		}
		if len(marks) == 0 || !ascending(marks...) || !ascending(v.Sees...) {
			return false
		}
		for _, key := range append(slices.Clone(v.Sees), v.Key) {
			if !keys.MatchString(key) {
				return false
			}
		}
	}
	return names.MatchString(b.Name) && ascending(all...)
}

// errorOf returns the error of a book in the document's words.
func errorOf(b api.VerseBook) api.Errno {
	if len(b.Verses) > 200 || slices.ContainsFunc(b.Verses, func(v api.Verse) bool { return len(v.Sees) > 20 }) {
		return api.ErrLong
	}
	if !valid(b) {
		return api.ErrArg
	}
	if dangling(b, 0) > 0 {
		return api.ErrNone
	}
	return api.OK
}

// dangling returns how many references of a book lead to no verse.
func dangling(b api.VerseBook, n int) int {
	for _, v := range b.Verses {
		for _, key := range v.Sees {
			if !slices.ContainsFunc(b.Verses, func(w api.Verse) bool { return w.Key == key }) {
				n++
			}
		}
	}
	return n
}

// textOf writes a book in the document's words.
func textOf(b api.VerseBook) string {
	var s strings.Builder
	fmt.Fprintf(&s, "@%s\n", b.Name)
	for _, v := range b.Verses {
		fmt.Fprintf(&s, "#%s\n", v.Key)
		for i, f := range v.Figures {
			fmt.Fprintf(&s, "%c%d", "=,"[min(i, 1)], f)
		}
		if len(v.Figures) > 0 {
			s.WriteByte('\n')
		}
		for _, key := range v.Sees {
			fmt.Fprintf(&s, ">%s\n", key)
		}
		for _, l := range v.Layers {
			fmt.Fprintf(&s, "%c:%s\n", l.Mark, l.Text)
		}
	}
	return s.String()
}

// pieces returns the lines of a text.
func pieces(s string) []string {
	l := strings.SplitAfter(s, "\n")
	return l[:len(l)-1+min(len(l[len(l)-1]), 1)]
}

// loosely returns the book that lines could be of, whatever is wrong with it, and whether there is one.
func loosely(lines []string) (b api.VerseBook, all bool) {
	for _, line := range lines {
		line, ended := strings.CutSuffix(line, "\n")
		if !ended || len(line) < 2 {
			return b, false
		}
		if line[0] == '@' {
			b.Name = line[1:]
			continue
		}
		if line[0] == '#' {
			b.Verses = append(b.Verses, api.Verse{Key: line[1:]})
			continue
		}
		if len(b.Verses) == 0 {
			return b, false
		}
		v := &b.Verses[len(b.Verses)-1]
		switch {
		case line[0] == '=':
			for _, word := range strings.Split(line[1:], ",") {
				f := api.Figure(-1)
				fmt.Sscan(word, &f)
				v.Figures = append(v.Figures, f)
			}
		case line[0] == '>':
			v.Sees = append(v.Sees, line[1:])
		case line[1] == ':':
			v.Layers = append(v.Layers, layers(line)...)
		default:
			return b, false
		}
	}
	return b, true
}

// begins reports whether lines are the beginning of the text of a valid book, but for the verses of its references and how much there is of everything.
func begins(lines []string) bool {
	b, all := loosely(lines)
	if n := len(b.Verses); n > 0 && len(b.Verses[n-1].Layers) == 0 {
		b.Verses[n-1].Layers = layers("a:x")
	}
	return all && valid(b) && strings.HasPrefix(textOf(b), strings.Join(lines, ""))
}

// readOf reads a book in the document's words.
func readOf(s string) (api.VerseBook, int, api.Errno) {
	if len(s) > 60000 {
		return api.VerseBook{}, 0, api.ErrLong
	}
	lines := pieces(s)
	verses, sees := 0, 0
	for i, line := range lines {
		if !begins(lines[:i+1]) {
			return api.VerseBook{}, i + 1, api.ErrForm
		}
		switch line[0] {
		case '#':
			verses, sees = verses+1, 0
		case '>':
			sees++
		}
		if verses > 200 || sees > 20 {
			return api.VerseBook{}, i + 1, api.ErrLong
		}
	}
	b, _ := loosely(lines)
	if !valid(b) {
		return api.VerseBook{}, len(lines) + 1, api.ErrForm
	}
	for i, line := range lines {
		if line[0] == '>' && !slices.Contains(lines, "#"+line[1:]) {
			return api.VerseBook{}, i + 1, api.ErrNone
		}
	}
	return b, 0, api.OK
}

// noiseBook returns a valid book that follows no rule, with at most so many verses.
func noiseBook(next func(int) int, most int) api.VerseBook {
	b := api.VerseBook{Name: noiseWord(next, 19)}
	all := map[string]bool{}
	for range next(most) {
		all[noiseWord(next, []int{0, 1, 3, 11}[next(3)])] = true
	}
	for _, key := range sorted(all) {
		v := api.Verse{Key: key}
		for f := range api.Figure(16) {
			if next(5) == 0 {
				v.Figures = append(v.Figures, f)
			}
		}
		for _, to := range sorted(all) {
			if next(2*len(all)) < 3 {
				v.Sees = append(v.Sees, to)
			}
		}
		for mark := byte('a'); mark <= 'z'; mark++ {
			if next(9) == 0 || mark == 'z' && len(v.Layers) == 0 {
				v.Layers = append(v.Layers, api.Layer{Mark: mark, Text: noiseText(next)})
			}
		}
		b.Verses = append(b.Verses, v)
	}
	return b
}

// sorted returns what is in a set of texts, in ascending order.
func sorted(set map[string]bool) []string {
	var l []string
	for s := range set {
		l = append(l, s)
	}
	slices.Sort(l)
	return l
}

// noiseWord returns a word of the form of a name that follows no rule, with at most so many bytes behind the first one.
func noiseWord(next func(int) int, most int) string {
	s := []byte{"abz"[next(2)]}
	for range next(most) {
		s = append(s, "abyz019-"[next(7)])
	}
	return string(s)
}

// noiseText returns the text of a layer that follows no rule.
func noiseText(next func(int) int) string {
	s := make([]byte, 1+next([]int{0, 1, 5, 79}[next(3)]))
	for i := range s {
		s[i] = byte(' ' + next('~'-' '))
		if i == 0 || i == len(s)-1 {
			s[i] = byte('!' + next('~'-'!'))
		}
	}
	return string(s)
}

// zero reports whether all of these are zero values, or empty lists.
func zero(l ...any) bool {
	for _, x := range l {
		if v := reflect.ValueOf(x); !v.IsZero() && (v.Kind() != reflect.Slice || v.Len() > 0) {
			return false
		}
	}
	return true
}

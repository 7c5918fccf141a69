package verse

import (
	"strconv"
	"strings"

	"astragal/api"
)

// start stands for a line ahead of the first one.
const start = '^'

// reader reads a book line by line.
type reader struct {
	verse                   // the one whose lines are read; ahead of the first one it has no key
	book      api.VerseBook // what was read before it
	last      byte          // the lead of the line before
	number    int           // of the line
	referring []int         // the numbers of the lines with references
}

// lineKind is a kind of lines: how its lines begin, behind which others they can come, and how they are read.
type lineKind struct {
	lead   byte
	behind string // the leads of these others
	read   func(r *reader, line string) api.Errno
}

// kindOf returns the kind of a line that is not empty. The lead of layers is `:`, since each of them begins with its own mark.
func kindOf(line string) lineKind {
	switch line[0] {
	case '@':
		return lineKind{'@', string(start), (*reader).title}
	case '#':
		return lineKind{'#', "@:", (*reader).key}
	case '=':
		return lineKind{'=', "#", (*reader).figures}
	case '>':
		return lineKind{'>', "#=>", (*reader).reference}
	}
	return lineKind{':', "#=>:", (*reader).layer}
}

// Read reads a book, or returns the line that is wrong.
func Read(s string) (b api.VerseBook, line int, e api.Errno) {
	if len(s) > api.MaxBook {
		return api.VerseBook{}, 0, api.ErrLong
	}
	r := reader{last: start}
	for text := range strings.Lines(s) {
		r.number++
		if e := r.read(text); e != api.OK {
			return api.VerseBook{}, r.number, e
		}
	}
	if r.last != '@' && r.last != ':' {
		return api.VerseBook{}, r.number + 1, api.ErrForm
	}
	r.close()
	if k := loose(r.book); k >= 0 {
		return api.VerseBook{}, r.referring[k], api.ErrNone
	}
	return r.book, 0, api.OK
}

// read reads a line.
func (r *reader) read(text string) api.Errno {
	line, ended := strings.CutSuffix(text, "\n")
	if !ended || line == "" {
		return api.ErrForm
	}
	kind := kindOf(line)
	if strings.IndexByte(kind.behind, r.last) < 0 {
		return api.ErrForm
	}
	r.last = kind.lead
	return kind.read(r, line)
}

// title reads the line with the name of the book.
func (r *reader) title(line string) api.Errno {
	r.book.Name = line[1:]
	if !isWord(r.book.Name, api.MaxTitle) {
		return api.ErrForm
	}
	return api.OK
}

// key reads the line with the key of a verse.
func (r *reader) key(line string) api.Errno {
	r.close()
	v := api.Verse{Key: line[1:]}
	if !nextVerse(r.book.Verses, v) {
		return api.ErrForm
	}
	if len(r.book.Verses) == api.MaxVerses {
		return api.ErrLong
	}
	r.verse = verse{v}
	return api.OK
}

// figures reads the line with the figures of a verse.
func (r *reader) figures(line string) api.Errno {
	for word := range strings.SplitSeq(line[1:], ",") {
		n, _ := strconv.Atoi(word)
		f := api.Figure(n)
		// Written again, so that each figure has one form only.
		if strconv.Itoa(n) != word || !nextFigure(r.Figures, f) {
			return api.ErrForm
		}
		r.Figures = append(r.Figures, f)
	}
	return api.OK
}

// reference reads a line with a reference of a verse.
func (r *reader) reference(line string) api.Errno {
	key := line[1:]
	if !nextReference(r.Sees, key) {
		return api.ErrForm
	}
	if len(r.Sees) == api.MaxSees {
		return api.ErrLong
	}
	r.Sees = append(r.Sees, key)
	r.referring = append(r.referring, r.number)
	return api.OK
}

// layer reads the line with a layer of a verse.
func (r *reader) layer(line string) api.Errno {
	text, marked := strings.CutPrefix(line[1:], ":")
	l := api.Layer{Mark: line[0], Text: text}
	if !marked || !nextLayer(r.Layers, l) {
		return api.ErrForm
	}
	r.Layers = append(r.Layers, l)
	return api.OK
}

// close puts the verse whose lines were read into the book.
func (r *reader) close() {
	if r.Key != "" {
		r.book.Verses = append(r.book.Verses, r.Verse)
	}
}

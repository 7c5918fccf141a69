package verse

import (
	"strconv"
	"strings"

	"astragal/api"
)

// Write writes a book.
func Write(b api.VerseBook) (string, api.Errno) {
	if e := Check(b); e != api.OK {
		return "", e
	}
	text := written(b)
	if len(text) > api.MaxBook {
		return "", api.ErrLong
	}
	return text, api.OK
}

// written returns the text of a book, however long it is.
func written(b api.VerseBook) string {
	text := strings.Builder{}
	line := func(parts ...string) {
		for _, part := range parts {
			text.WriteString(part)
		}
		text.WriteByte('\n')
	}
	line("@", b.Name)
	for _, v := range b.Verses {
		verse{v}.write(line)
	}
	return text.String()
}

// write writes the lines of a verse.
func (v verse) write(line func(parts ...string)) {
	line("#", v.Key)
	if len(v.Figures) > 0 {
		line("=", numbers(v.Figures))
	}
	for _, key := range v.Sees {
		line(">", key)
	}
	for _, l := range v.Layers {
		line(string(l.Mark), ":", l.Text)
	}
}

// numbers returns the numbers of figures as they are written.
func numbers(figures []api.Figure) string {
	var words []string
	for _, f := range figures {
		words = append(words, strconv.Itoa(int(f)))
	}
	return strings.Join(words, ",")
}

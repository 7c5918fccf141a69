package verse_test

import (
	"fmt"
	"slices"
	"strings"
	"testing"

	"astragal/api"
	"astragal/verse"
)

// great returns a book with as much of everything as a book can have, but for its text, which is too long to be written.
func great() api.VerseBook {
	b := api.VerseBook{Name: "a" + strings.Repeat("-", 19)}
	for i := range 200 {
		v := api.Verse{Key: fmt.Sprintf("verse-%06d", i)}
		for f := range api.Figure(16) {
			v.Figures = append(v.Figures, f)
		}
		for to := range 20 {
			v.Sees = append(v.Sees, fmt.Sprintf("verse-%06d", 9*to))
		}
		for mark := byte('a'); mark <= 'z'; mark++ {
			v.Layers = append(v.Layers, api.Layer{Mark: mark, Text: strings.Repeat("~", 80)})
		}
		b.Verses = append(b.Verses, v)
	}
	return b
}

// full returns a book whose text has so many bytes, from 59000 on.
func full(bytes int) api.VerseBook {
	b := api.VerseBook{Name: "n"}
	left := bytes - len("@n\n")
	for i := 0; left > 0; i++ {
		v := api.Verse{Key: fmt.Sprintf("k%03d", i)}
		left -= len("#k000\n")
		for mark := byte('a'); mark <= 'z' && left > 0; mark++ {
			n := min(left, 83)
			if left > 83 && left < 100 { // so that something is left for another layer
				n = 50
			}
			v.Layers = append(v.Layers, api.Layer{Mark: mark, Text: strings.Repeat("x", n-3)})
			left -= n
		}
		b.Verses = append(b.Verses, v)
	}
	if n := len(textOf(b)); n != bytes {
		panic(n)
	}
	return b
}

// breaks returns what makes the book of the example invalid, next to what is valid, each for one reason.
func breaks() []func(b *api.VerseBook) {
	name := func(s string) func(*api.VerseBook) { return func(b *api.VerseBook) { b.Name = s } }
	key := func(verse int, s string) func(*api.VerseBook) {
		return func(b *api.VerseBook) { b.Verses[verse].Key = s }
	}
	figures := func(l ...api.Figure) func(*api.VerseBook) {
		return func(b *api.VerseBook) { b.Verses[1].Figures = l }
	}
	sees := func(l ...string) func(*api.VerseBook) { return func(b *api.VerseBook) { b.Verses[1].Sees = l } }
	meanings := func(l ...api.Layer) func(*api.VerseBook) {
		return func(b *api.VerseBook) { b.Verses[1].Layers = l }
	}
	text := func(s string) func(*api.VerseBook) { return meanings(api.Layer{Mark: 'a', Text: s}) }
	mark := func(m byte) func(*api.VerseBook) { return meanings(api.Layer{Mark: m, Text: "x"}) }
	return []func(*api.VerseBook){
		func(b *api.VerseBook) { *b = api.VerseBook{} },
		func(b *api.VerseBook) { b.Verses = append(b.Verses, plain("b2")) },
		func(b *api.VerseBook) { b.Verses = append(b.Verses, plain("b")) },
		func(b *api.VerseBook) { b.Verses = append(b.Verses, plain("b-")) },
		func(b *api.VerseBook) { slices.Reverse(b.Verses) },
		func(b *api.VerseBook) { b.Verses[1] = api.Verse{} },
		name(""), name("-"), name("-a"), name("1"), name("1a"), name("A"), name("aB"), name("a_"), name("a b"), name("a\n"), name(" a"), name("a "), name("ä"), name("aä"), name("a\xff"), name("a\x00"), name("a/"), name("a:"), name("a`"), name("a{"), name("{"), name("`"), name("a" + strings.Repeat("b", 20)),
		key(1, ""), key(1, "b-\n"), key(1, "b_"), key(1, "B2"), key(1, "2b"), key(1, "-b"), key(1, "c."), key(1, "cä"), key(1, "c\x80"), key(1, "b"+strings.Repeat("2", 12)), key(0, ""), key(0, "A1"), key(0, "c"),
		figures(-1), figures(16), figures(0, 16), figures(-1, 3), figures(3, 3), figures(4, 3), figures(0, 1, 2, 2), figures(15, 0), figures(1 << 32), figures(-1 << 63), figures(1<<63 - 1), figures(make([]api.Figure, 17)...),
		sees(""), sees("a1", "a1"), sees("b2", "a1"), sees("a1", "b2", "b2"), sees("A1"), sees("1a"), sees("-"), sees("a1", "b2\n"), sees("b" + strings.Repeat("2", 12)), sees("a1 "), sees("ü"), sees("a1", "", "b2"),
		meanings(), mark(0), mark('`'), mark('{'), mark('A'), mark('Z'), mark('0'), mark(255), mark('@'), mark('#'), mark('='), mark('>'), mark(':'),
		meanings(layers("a:x", "a:y")...), meanings(layers("b:x", "a:y")...), meanings(layers("a:x", "b:y", "b:z")...), meanings(layers("a:x", "c:", "d:z")...),
		text(""), text(" "), text(" a"), text("a "), text("  "), text("a\n"), text("a\nb"), text("a\tb"), text("\x1f"), text("a\x1fb"), text("\x7f"), text("a\x7fb"), text("ä"), text("a\x80b"), text("\xff"), text(strings.Repeat("a", 81)), text(" " + strings.Repeat("a", 79)),
	}
}

// P7.1: books at the limits of the document are valid, and written as it says.
func TestWrite(t *testing.T) {
	next := noise(71)
	books := []api.VerseBook{example(), {Name: "n"}, {Name: "z9-"}, {Name: "a", Verses: []api.Verse{}}, full(59999), full(60000)}
	for _, s := range []string{"!", "~", "!~", "a  b", "#a1", "a:b", strings.Repeat("a", 80), "a" + strings.Repeat(" ", 78) + "b"} {
		books = append(books, api.VerseBook{Name: "a", Verses: []api.Verse{{Key: "z--", Layers: []api.Layer{{Mark: 'z', Text: s}}}}})
	}
	for range 500 {
		books = append(books, noiseBook(next, 8))
	}
	for i, b := range books {
		was := copied(b)
		s, e := verse.Write(b)
		if s != textOf(b) || e != api.OK || verse.Check(b) != api.OK || !equal(b, was) {
			t.Errorf("%d %q %v", i, s, e)
		}
	}
	if b := great(); verse.Check(b) != api.OK {
		t.Error(b.Verses[0])
	}
}

// P7.1: each reason for which a book is invalid; all functions with books have its error first.
func TestInvalidBooks(t *testing.T) {
	for i, change := range breaks() {
		b := example()
		change(&b)
		refused(t, i, b, api.ErrArg)
	}
	next := noise(711)
	for i := range 300 {
		b := noiseBook(next, 6)
		for range 1 + next(1) {
			worse(next, &b)
		}
		if e := errorOf(b); e != api.OK {
			refused(t, i, b, e)
		} else if e := verse.Check(b); e != api.OK {
			t.Error(i, b, e)
		}
	}
}

// worse changes something of a book, often so that it is no longer valid.
func worse(next func(int) int, b *api.VerseBook) {
	if len(b.Verses) == 0 {
		b.Name += "-----"
		return
	}
	v := &b.Verses[next(len(b.Verses)-1)]
	switch next(6) {
	case 0:
		v.Key = noiseWord(next, 12)
	case 1:
		v.Figures = append(v.Figures, api.Figure(next(17)-1))
	case 2:
		v.Sees = append(v.Sees, noiseWord(next, 1))
	case 3:
		v.Layers = append(v.Layers, api.Layer{Mark: byte('`' + next(27)), Text: noiseText(next)})
	case 4:
		v.Layers[0].Text = strings.Repeat(" ", next(1)) + v.Layers[0].Text + strings.Repeat(" ", next(1))
	case 5:
		v.Layers = v.Layers[1:]
	case 6:
		b.Name = noiseWord(next, 21)
	}
}

// refused checks that no function takes a book, whatever else is wrong.
func refused(t *testing.T, i int, b api.VerseBook, want api.Errno) {
	t.Helper()
	if e := verse.Check(b); e != want {
		t.Error(i, b, e)
	}
	if s, e := verse.Write(b); s != "" || e != want {
		t.Error(i, b, s, e)
	}
	if l, e := verse.For(b, 16); len(l) != 0 || e != want {
		t.Error(i, b, l, e)
	}
	if l, m, e := verse.Missing(b); len(l) != 0 || len(m) != 0 || e != want {
		t.Error(i, b, l, m, e)
	}
	l, e := verse.Reach(b, "none")
	m, f := verse.Ring(b, "none")
	if len(l) != 0 || e != want || len(m) != 0 || f != want {
		t.Error(i, b, l, e, m, f)
	}
	if l, e := verse.Draw(b, []int{0}, make([]int, 79)); len(l) != 0 || e != want {
		t.Error(i, b, l, e)
	}
}

// P7.1: too much comes first, then what is invalid, then references to no verse; and a text that is too long last.
func TestOrderOfBookErrors(t *testing.T) {
	more := func(b *api.VerseBook) { b.Verses = append(b.Verses, plain("z")) }
	sees := func(n int) func(*api.VerseBook) {
		return func(b *api.VerseBook) { b.Verses[len(b.Verses)-1].Sees = make([]string, n) }
	}
	invalid := func(b *api.VerseBook) { b.Name = "" }
	dangling := func(b *api.VerseBook) { b.Verses[0].Sees = []string{"a", "zz"} }
	for i, c := range []struct {
		e       api.Errno
		changes []func(*api.VerseBook)
	}{
		{api.ErrLong, []func(*api.VerseBook){more}},
		{api.ErrLong, []func(*api.VerseBook){sees(21)}},
		{api.ErrLong, []func(*api.VerseBook){more, invalid, dangling}},
		{api.ErrLong, []func(*api.VerseBook){sees(21), invalid, dangling}},
		{api.ErrLong, []func(*api.VerseBook){sees(5000)}},
		{api.ErrArg, []func(*api.VerseBook){sees(20)}},
		{api.ErrArg, []func(*api.VerseBook){invalid, dangling}},
		{api.ErrArg, []func(*api.VerseBook){dangling, func(b *api.VerseBook) { b.Verses[199].Figures = []api.Figure{16} }}},
		{api.ErrNone, []func(*api.VerseBook){dangling}},
		{api.ErrNone, []func(*api.VerseBook){func(b *api.VerseBook) { b.Verses[199].Sees = []string{"verse-000000", "verse-00000x"} }}},
		{api.ErrNone, []func(*api.VerseBook){func(b *api.VerseBook) { b.Verses = b.Verses[:171] }}},
		{api.OK, []func(*api.VerseBook){func(b *api.VerseBook) { b.Verses = b.Verses[:172] }}},
	} {
		b := great()
		for _, change := range c.changes {
			change(&b)
		}
		if e := verse.Check(b); e != c.e || errorOf(b) != c.e {
			t.Error(i, e)
		} else if e != api.OK {
			refused(t, i, b, e)
		}
	}
	for _, b := range []api.VerseBook{great(), full(60001), full(60002), full(70000)} {
		if s, e := verse.Write(b); s != "" || e != api.ErrLong || verse.Check(b) != api.OK {
			t.Error(len(s), e)
		}
	}
	many := api.VerseBook{Name: "n", Verses: make([]api.Verse, 3000)}
	refused(t, 0, many, api.ErrLong)
}

// The first example of the chapter.
func TestExampleOfBooks(t *testing.T) {
	want := strings.Join([]string{"@small", "#a1", "=0,15", ">b2", "a:go", "#b2", "a:stay", "c:wait a while", ""}, "\n")
	if s, e := verse.Write(example()); s != want || s != small || e != api.OK {
		t.Errorf("%q %v", s, e)
	}
	if b, line, e := verse.Read(want); !equal(b, example()) || line != 0 || e != api.OK {
		t.Error(b, line, e)
	}
}

// P7.7: what is written is read as the same book, and what is read is written as it was.
func TestByteForByte(t *testing.T) {
	next := noise(77)
	texts := map[string]api.VerseBook{}
	for i := range 1500 {
		b := noiseBook(next, i%12)
		if i%100 == 0 {
			b = full(60000 - i)
		}
		s := ok(verse.Write(b))
		back, line, e := verse.Read(s)
		if !equal(b, back) || line != 0 || e != api.OK || ok(verse.Write(back)) != s {
			t.Fatalf("%q %v %v %v", s, back, line, e)
		}
		if other, there := texts[s]; there && !equal(b, other) {
			t.Fatalf("%q %v %v", s, b, other)
		}
		texts[s] = b
	}
}

package verse_test

import (
	"fmt"
	"slices"
	"strings"
	"testing"

	"astragal/api"
	"astragal/verse"
)

// same checks that a text is read as the document says.
func same(t *testing.T, s string) api.Errno {
	t.Helper()
	b, line, e := verse.Read(s)
	if wantBook, wantLine, want := readOf(s); !equal(b, wantBook) || line != wantLine || e != want {
		t.Errorf("%.300q: %v %v %v, want %v %v %v", s, b, line, e, wantBook, wantLine, want)
	}
	return e
}

// P7.2: texts with single faults, line by line.
func TestRead(t *testing.T) {
	for _, c := range []struct {
		old, new string
		line     int
		e        api.Errno
	}{
		{"@small", "@", 1, api.ErrForm}, {"@small", "small", 1, api.ErrForm}, {"@small", "@-", 1, api.ErrForm}, {"@small", " @small", 1, api.ErrForm}, {"@small", "@small ", 1, api.ErrForm}, {"@small", "@a23456789012345678901", 1, api.ErrForm}, {"@small", "@a2345678901234567890", 0, api.OK}, {"@small\n", "", 1, api.ErrForm}, {"@small\n", "\n@small\n", 1, api.ErrForm}, {"@small", "^small", 1, api.ErrForm}, {"@small\n", "^:small\n@small\n", 1, api.ErrForm},
		{"@small\n", "@small\n@small\n", 2, api.ErrForm}, {"@small\n", "@small\n\n", 2, api.ErrForm}, {"@small\n", "@small\na:x\n", 2, api.ErrForm}, {"@small\n", "@small\n=0\n", 2, api.ErrForm}, {"@small\n", "@small\n>b2\n", 2, api.ErrForm}, {"@small\n", "@small\r\n", 1, api.ErrForm},
		{"#a1", "#", 2, api.ErrForm}, {"#a1", "#1a", 2, api.ErrForm}, {"#a1", "#A1", 2, api.ErrForm}, {"#a1", "#a123456789012", 2, api.ErrForm}, {"#a1", "#a12345678901", 0, api.OK}, {"#a1", "# a1", 2, api.ErrForm}, {"#a1", "#b2", 6, api.ErrForm}, {"#a1", "#b3", 6, api.ErrForm}, {"#a1", "#b10", 0, api.OK}, {"#a1\n", "#a1\n#a2\n", 3, api.ErrForm}, {"#a1\n", "#a1\n@a\n", 3, api.ErrForm}, {"#a1\n", "", 2, api.ErrForm},
		{"=0,15", "=15,0", 3, api.ErrForm}, {"=0,15", "=0,015", 3, api.ErrForm}, {"=0,15", "=", 3, api.ErrForm}, {"=0,15", "=,", 3, api.ErrForm}, {"=0,15", "=0,", 3, api.ErrForm}, {"=0,15", "=,0", 3, api.ErrForm}, {"=0,15", "=0,,15", 3, api.ErrForm}, {"=0,15", "=0,16", 3, api.ErrForm}, {"=0,15", "=-1", 3, api.ErrForm}, {"=0,15", "=-0", 3, api.ErrForm}, {"=0,15", "=+1", 3, api.ErrForm}, {"=0,15", "=00", 3, api.ErrForm}, {"=0,15", "=01", 3, api.ErrForm}, {"=0,15", "=0x1", 3, api.ErrForm}, {"=0,15", "=1_0", 3, api.ErrForm}, {"=0,15", "=0, 15", 3, api.ErrForm}, {"=0,15", "=0 ", 3, api.ErrForm}, {"=0,15", "=0;15", 3, api.ErrForm}, {"=0,15", "=0,0", 3, api.ErrForm}, {"=0,15", "=18446744073709551616", 3, api.ErrForm}, {"=0,15", "=9223372036854775807", 3, api.ErrForm}, {"=0,15", "=99999999999999999999999999", 3, api.ErrForm}, {"=0,15", "=x", 3, api.ErrForm}, {"=0,15", "=0,1e1", 3, api.ErrForm},
		{"=0,15", "=0", 0, api.OK}, {"=0,15", "=0,1,2,3,4,5,6,7,8,9,10,11,12,13,14,15", 0, api.OK}, {"=0,15\n", "", 0, api.OK}, {"=0,15\n", "=0\n=15\n", 4, api.ErrForm}, {"=0,15\n>b2\n", ">b2\n=0,15\n", 4, api.ErrForm}, {"a:go\n", "a:go\n=1\n", 6, api.ErrForm}, {"=0,15\n", "=0,15\n#a2\n", 4, api.ErrForm}, {"=0,15\n", "=0,15\n@a\n", 4, api.ErrForm},
		{">b2", ">", 4, api.ErrForm}, {">b2", ">B2", 4, api.ErrForm}, {">b2", ">>b2", 4, api.ErrForm}, {">b2", "> b2", 4, api.ErrForm}, {">b2", ">b2 ", 4, api.ErrForm}, {">b2", ">b234567890123", 4, api.ErrForm}, {">b2", ">b23456789012", 4, api.ErrNone}, {">b2", ">b3", 4, api.ErrNone}, {">b2", ">b", 4, api.ErrNone}, {">b2", ">small", 4, api.ErrNone}, {">b2\n", "", 0, api.OK}, {">b2", ">a1", 0, api.OK}, {">b2\n", ">a1\n>b2\n", 0, api.OK}, {">b2\n", ">b2\n>b2\n", 5, api.ErrForm}, {">b2\n", ">b2\n>a1\n", 5, api.ErrForm}, {">b2\n", ">b2\n>b3\n", 5, api.ErrNone}, {">b2\n", ">b1\n>b2\n>b3\n", 4, api.ErrNone}, {">b2\n", ">b2\n#a2\n", 5, api.ErrForm}, {">b2\n", ">b2\n@a\n", 5, api.ErrForm}, {"a:go\n", "a:go\n>b2\n", 6, api.ErrForm}, {"#b2\n", "#b2\n>c\n", 7, api.ErrNone}, {"#b2\n", "#b2\n>a1\n", 0, api.OK}, {"while\n", "while\n>a1\n", 9, api.ErrForm},
		{"a:go", "a:", 5, api.ErrForm}, {"a:go", "a", 5, api.ErrForm}, {"a:go", "ago", 5, api.ErrForm}, {"a:go", ":go", 5, api.ErrForm}, {"a:go", "A:go", 5, api.ErrForm}, {"a:go", "{:go", 5, api.ErrForm}, {"a:go", "`:go", 5, api.ErrForm}, {"a:go", "1:go", 5, api.ErrForm}, {"a:go", "ab:go", 5, api.ErrForm}, {"a:go", "a :go", 5, api.ErrForm}, {"a:go", "a: go", 5, api.ErrForm}, {"a:go", "a:go ", 5, api.ErrForm}, {"a:go", "a:g\to", 5, api.ErrForm}, {"a:go", "a:g\x7fo", 5, api.ErrForm}, {"a:go", "a:gö", 5, api.ErrForm}, {"a:go", "a:g\xff", 5, api.ErrForm}, {"a:go", "\xe1:go", 5, api.ErrForm}, {"a:go", "a:go\r", 5, api.ErrForm}, {"a:go", "a::go", 0, api.OK}, {"a:go", "z:go", 0, api.OK}, {"a:go", "a:g  o", 0, api.OK}, {"a:go", "a:~", 0, api.OK}, {"a:go", "a:" + strings.Repeat("x", 80), 0, api.OK}, {"a:go", "a:" + strings.Repeat("x", 81), 5, api.ErrForm}, {"a:go\n", "a:go\na:go\n", 6, api.ErrForm}, {"a:go\n", "b:go\na:go\n", 6, api.ErrForm}, {"a:go\n", "a:go\nb:go\n", 0, api.OK}, {"a:go\n", "a:go\n@a\n", 6, api.ErrForm}, {"a:go\n", "a:go\n\n", 6, api.ErrForm}, {"a:go\n", "", 5, api.ErrForm},
		{"#b2", "#a1", 6, api.ErrForm}, {"#b2", "#a0", 6, api.ErrForm}, {"#b2", "#a", 6, api.ErrForm}, {"#b2", "#b3", 4, api.ErrNone}, {"#b2\n", "", 6, api.ErrForm},
		{"c:wait a while\n", "", 0, api.OK}, {"a:stay\nc:wait a while\n", "", 7, api.ErrForm}, {"a:stay\nc:wait a while\n", ">b2\n", 8, api.ErrForm}, {"a:stay\nc:wait a while\n", "=7\n", 8, api.ErrForm}, {"while\n", "while", 8, api.ErrForm}, {"while\n", "while\n\n", 9, api.ErrForm}, {"while\n", "while\n ", 9, api.ErrForm}, {"while\n", "while\n#c", 9, api.ErrForm}, {"while\n", "while\n#c\n", 10, api.ErrForm}, {"while\n", "while\x00\n", 8, api.ErrForm},
	} {
		s := strings.Replace(small, c.old, c.new, 1)
		b, line, e := verse.Read(s)
		if line != c.line || e != c.e || none(b) != (e != api.OK) {
			t.Errorf("%q %q: %v %v %v", c.old, c.new, b, line, e)
		}
		same(t, s)
	}
}

// P7.2: what is no book at all, and books without verses.
func TestReadLittle(t *testing.T) {
	for _, c := range []struct {
		s    string
		line int
		e    api.Errno
	}{
		{"", 1, api.ErrForm}, {"\n", 1, api.ErrForm}, {"\n\n", 1, api.ErrForm}, {"@", 1, api.ErrForm}, {"@\n", 1, api.ErrForm}, {"@a", 1, api.ErrForm}, {"@a\n", 0, api.OK}, {"@a\n@", 2, api.ErrForm}, {"@a\n#b", 2, api.ErrForm}, {"@a\n#b\n", 3, api.ErrForm}, {"@a\n#b\na:", 3, api.ErrForm}, {"@a\n#b\na:c\n", 0, api.OK}, {"#b\na:c\n", 1, api.ErrForm}, {"a:c\n", 1, api.ErrForm}, {"\xff", 1, api.ErrForm}, {"\x00\n", 1, api.ErrForm}, {"^\n", 1, api.ErrForm}, {":\n", 1, api.ErrForm},
	} {
		b, line, e := verse.Read(c.s)
		if line != c.line || e != c.e || none(b) != (e != api.OK) {
			t.Errorf("%q: %v %v %v", c.s, b, line, e)
		}
		same(t, c.s)
	}
}

// The second example of the chapter.
func TestExampleOfRead(t *testing.T) {
	lines := pieces(small)
	for _, c := range []struct {
		s    string
		line int
		e    api.Errno
	}{
		{strings.Replace(small, "=0,15", "=15,0", 1), 3, api.ErrForm},
		{strings.Replace(small, "=0,15", "=0,015", 1), 3, api.ErrForm},
		{strings.Replace(small, ">b2", ">b3", 1), 4, api.ErrNone},
		{strings.Join(lines[:6], ""), 7, api.ErrForm},
	} {
		if b, line, e := verse.Read(c.s); !none(b) || line != c.line || e != c.e {
			t.Errorf("%q: %v %v %v", c.s, b, line, e)
		}
	}
	other, line, e := verse.Read(strings.Join(lines[:7], ""))
	want := example()
	want.Verses[1].Layers = layers("a:stay")
	if !equal(other, want) || line != 0 || e != api.OK {
		t.Error(other, line, e)
	}
}

// manyVerses returns the text of a book with so many verses, the lines of a verse 2.
func manyVerses(n int) string {
	s := "@n\n"
	for i := range n {
		s += fmt.Sprintf("#k%03d\na:x\n", i)
	}
	return s
}

// manySees returns the text of a book with 25 verses, the last one with so many references.
func manySees(n int) string {
	s := "@n\n"
	for i := range 25 {
		s += fmt.Sprintf("#k%03d\n", i)
		for k := range []int{0, 20}[i/23] {
			s += fmt.Sprintf(">k%03d\n", k)
		}
		if i < 24 {
			s += "a:x\n"
		}
	}
	for k := range max(n-20, 0) {
		s += fmt.Sprintf(">k%03d\n", 20+k)
	}
	return s + "a:x\n"
}

// P7.2: too many bytes, verses and references, and what comes ahead of these errors.
func TestReadMuch(t *testing.T) {
	sees, at := manySees(21), strings.Count(manySees(20), "\n")
	for i, c := range []struct {
		s    string
		line int
		e    api.Errno
	}{
		{manyVerses(200), 0, api.OK}, {manyVerses(201), 402, api.ErrLong}, {manyVerses(203), 402, api.ErrLong},
		{manyVerses(201) + "?\n", 402, api.ErrLong}, {manyVerses(201) + "#k200\n", 402, api.ErrLong}, {strings.Replace(manyVerses(201), "a:x", "a:", 200), 3, api.ErrForm},
		{manyVerses(200) + "#", 402, api.ErrForm}, {manyVerses(200) + "#k200", 402, api.ErrForm}, {manyVerses(200) + "#k199\n", 402, api.ErrForm}, {manyVerses(200) + "#k2000000000000\n", 402, api.ErrForm}, {manyVerses(200) + "#k200\n", 402, api.ErrLong}, {manyVerses(200) + "b:y\n#k200\n", 403, api.ErrLong}, {manyVerses(200) + "b:y\n", 0, api.OK},
		{strings.Replace(manyVerses(201), "#k000\n", "#k000\n>zzz\n", 1), 403, api.ErrLong}, {strings.Replace(manyVerses(200), "#k000\n", "#k000\n>zzz\n", 1), 3, api.ErrNone},
		{manySees(20), 0, api.OK}, {sees, at, api.ErrLong}, {manySees(25), at, api.ErrLong}, {strings.Replace(sees, ">k020\n", ">k019\n", 1), at, api.ErrForm}, {strings.Replace(sees, ">k020\n", ">K020\n", 1), at, api.ErrForm}, {strings.Replace(sees, ">k020\na:x\n", ">k020", 1), at, api.ErrForm}, {strings.Replace(sees, ">k020\n", ">zzz\n", 1), at, api.ErrLong}, {strings.Replace(manySees(20), ">k019\n", ">zzz\n", 2), at - 23, api.ErrNone},
		{strings.Repeat("x", 60000), 1, api.ErrForm}, {strings.Repeat("x", 60001), 0, api.ErrLong}, {strings.Repeat("\n", 60001), 0, api.ErrLong}, {strings.Repeat("@a\n", 20001), 0, api.ErrLong},
		{textOf(full(60000)), 0, api.OK}, {textOf(full(60001)), 0, api.ErrLong}, {textOf(great()), 0, api.ErrLong},
		{textOf(full(60000))[:59999], strings.Count(textOf(full(60000)), "\n"), api.ErrForm},
	} {
		b, line, e := verse.Read(c.s)
		if line != c.line || e != c.e || none(b) != (e != api.OK) {
			t.Error(i, line, e)
		}
	}
	same(t, sees)
	same(t, manySees(20))
}

// P7.2: the limit of bytes changes nothing else: a text that ends where there is room for nothing more lacks the line behind it.
func TestReadToTheEnd(t *testing.T) {
	b := full(60000)
	s := textOf(b)
	last := pieces(s)[strings.Count(s, "\n")-1]
	s = strings.TrimSuffix(s, last)
	s += last[:len(last)-len("#z\n")-1] + "\n#z\n"
	if b, line, e := verse.Read(s); len(s) != 60000 || !none(b) || line != strings.Count(s, "\n")+1 || e != api.ErrForm {
		t.Error(len(s), line, e)
	}
}

// P7.2, P7.7: texts that differ from those of books by some changes, against the document's words.
func TestReadChanged(t *testing.T) {
	next := noise(72)
	seen := map[api.Errno]int{}
	for range 6000 {
		s := ok(verse.Write(noiseBook(next, 4)))
		for range 1 + next(1) {
			s = changed(next, s)
		}
		e := same(t, s)
		seen[e]++
		if b, _, e := verse.Read(s); e == api.OK && ok(verse.Write(b)) != s {
			t.Errorf("%q %v", s, b)
		}
	}
	if seen[api.OK] < 100 || seen[api.ErrForm] < 100 || seen[api.ErrNone] < 100 {
		t.Error(seen)
	}
}

// changed returns a text with another byte, line, or order of lines.
func changed(next func(int) int, s string) string {
	at, lines := next(len(s)), pieces(s)
	if len(lines) == 0 {
		return "@a\n"
	}
	i, j := next(len(lines)-1), next(len(lines)-1)
	switch next(9) {
	case 0:
		return s[:at]
	case 1:
		return s[:at] + "ab09-,:=#@>\n ~\x7f"[next(14):][:1] + s[at:]
	case 2:
		return s[:at] + s[min(at+1, len(s)):]
	case 3:
		lines[i], lines[j] = lines[j], lines[i]
	case 4:
		lines = slices.Delete(lines, i, i+1)
	case 5:
		lines = slices.Insert(lines, i, lines[j])
	case 6:
		lines = slices.Insert(lines, i, ">"+noiseWord(next, 1)+"\n")
	case 7:
		lines = slices.Insert(lines, i, "="+fmt.Sprint(next(16))+"\n")
	case 8:
		lines = slices.Insert(lines, i, string([]byte{byte('a' + next(25))})+":"+noiseText(next)+"\n")
	case 9:
		lines = slices.Insert(lines, i, "#"+noiseWord(next, 2)+"\na:x\n")
	}
	return strings.Join(lines, "")
}

// P7.8: any byte exchanged by any other one; and what comes before a line with an error of form is the beginning of a book.
func TestDamage(t *testing.T) {
	next := noise(78)
	books := []api.VerseBook{example(), {Name: "n"}}
	for range 4 {
		books = append(books, noiseBook(next, 5))
	}
	for i, b := range books {
		text := ok(verse.Write(b))
		for at := range len(text) {
			for c := range 256 {
				if byte(c) == text[at] {
					continue
				}
				s := text[:at] + string([]byte{byte(c)}) + text[at+1:]
				if i < 2 {
					same(t, s)
				}
				other, line, e := verse.Read(s)
				switch {
				case e == api.OK && (equal(other, b) || ok(verse.Write(other)) != s):
					t.Errorf("%q %v", s, other)
				case e == api.ErrForm:
					begun(t, pieces(s)[:line-1])
				case e != api.OK && e != api.ErrNone:
					t.Errorf("%q %v", s, e)
				}
			}
		}
	}
}

// begun checks that lines are the beginning of the text of a book, if their references are left out.
func begun(t *testing.T, lines []string) {
	t.Helper()
	without := ""
	for _, line := range lines {
		if line[0] != '>' {
			without += line
		}
	}
	for _, end := range []string{"", "a:x\n", "@a\n"} {
		if b, _, e := verse.Read(without + end); e == api.OK && strings.HasPrefix(ok(verse.Write(b)), without) {
			return
		}
	}
	t.Errorf("%q", without)
}

// P7.8 again: at every line of the texts, with lines that can not come there.
func TestBegun(t *testing.T) {
	next := noise(788)
	for range 2000 {
		s := changed(next, ok(verse.Write(noiseBook(next, 4))))
		if _, line, e := verse.Read(s); e == api.ErrForm {
			begun(t, pieces(s)[:line-1])
		}
	}
}

// R4: books that are read share no memory, not even with each other.
func TestReadMemory(t *testing.T) {
	a, _, _ := verse.Read(small)
	b, _, _ := verse.Read(small)
	spoilt(a)
	if c, _, e := verse.Read(small); !equal(b, example()) || !equal(c, example()) || e != api.OK {
		t.Error(b, c, e)
	}
	for _, list := range [][]int{{0, 1}, {1, 0}} {
		b, _, _ := verse.Read("@n\n#a\n=1,2,3\n>a\n>b\na:x\nb:y\nc:z\n#b\n=4,5,6\n>a\n>b\na:x\nb:y\nc:z\n")
		v, w := &b.Verses[list[0]], &b.Verses[list[1]]
		figures, sees, layers := slices.Clone(w.Figures), slices.Clone(w.Sees), slices.Clone(w.Layers)
		_ = append(v.Figures, 9)
		_ = append(v.Sees, "z")
		_ = append(v.Layers, api.Layer{})
		if !slices.Equal(w.Figures, figures) || !slices.Equal(w.Sees, sees) || !slices.Equal(w.Layers, layers) {
			t.Error(b)
		}
	}
}

package witness_test

import (
	"fmt"
	"slices"
	"strings"
	"testing"

	"astragal/api"
	"astragal/witness"
)

// P11.8: transcripts of drawings byte for byte.
func TestText(t *testing.T) {
	h, g := sealOf(one), sealOf(two)
	d := ok(witness.New(12, 2))
	want := ""
	said := func(line string, e api.Errno) {
		t.Helper()
		want += line
		if s, f := d.Text(); s != want || e != api.OK || f != api.OK {
			t.Errorf("%q %v %v", s, e, f)
		}
	}
	said("draw 12 2\n", api.OK)
	said("seal 2 "+g+"\n", d.Seal(2, g))
	d.Seal(2, h)
	d.Close()
	said("seal 1 "+h+"\n", d.Seal(1, h))
	_, e := d.Open(two)
	said("open 2 9 elm\n", e)
	d.Open(two)
	d.Open(api.Box{Person: 3})
	said("close\n", d.Close())
	d.Close()
	d.Open(one)
	said("", api.OK)
	most := slices.Repeat([]int{999999999}, 30)
	if s := ok(played(1000000000, boxes(most...)...).Text()); !strings.HasPrefix(s, "draw 1000000000 30\nseal 1 ") || !strings.HasSuffix(s, "\nopen 30 999999999 s29\n") || strings.Count(s, "\n") != 61 {
		t.Error(s)
	}
}

// heard checks that a transcript is read as the document says.
func heard(t *testing.T, s string) (int, api.Errno) {
	t.Helper()
	r, line, e := witness.Audit(s)
	if want, wantLine, wanted := audited(s); !equal(r, want) || line != wantLine || e != wanted {
		t.Errorf("%.200q: %v %v %v, want %v %v %v", s, r, line, e, want, wantLine, wanted)
	}
	if e != api.OK && !zero(r) {
		t.Errorf("%.200q: %v", s, r)
	}
	return line, e
}

// P11.8: the reports of drawings in each state.
func TestReports(t *testing.T) {
	h, g := sealOf(one), sealOf(two)
	both := "seal 1 " + h + "\nseal 2 " + g + "\n"
	wrong := api.Deviant{Person: 2, Kind: api.WrongBox, Seal: 3, Line: 4}
	for i, c := range []struct {
		lines    string
		over     bool
		value    int
		deviants []api.Deviant
	}{
		{"", false, -1, nil}, {"seal 2 " + g + "\n", false, -1, nil}, {both, false, -1, nil}, {both + "open 1 7 oak\n", false, -1, nil},
		{both + "open 2 8 elm\n", false, -1, []api.Deviant{wrong}},
		{both + "open 1 7 oak\nopen 2 9 elm\n", true, 4, nil}, {both + "open 2 9 elm\nopen 1 7 oak\n", true, 4, nil},
		{both + "open 2 8 elm\nopen 1 7 oak\n", true, -1, []api.Deviant{wrong}},
		{both + "open 2 8 elm\nclose\n", true, -1, []api.Deviant{{Person: 1, Kind: api.NoBox, Seal: 2, Line: 5}, wrong}},
		{both + "close\n", true, -1, []api.Deviant{{Person: 1, Kind: api.NoBox, Seal: 2, Line: 4}, {Person: 2, Kind: api.NoBox, Seal: 3, Line: 4}}},
	} {
		r, line, e := witness.Audit("draw 12 2\n" + c.lines)
		if !equal(r, api.AuditReport{Below: 12, Persons: 2, Over: c.over, Value: c.value, Deviants: c.deviants}) || line != 0 || e != api.OK {
			t.Error(i, r, line, e)
		}
	}
	if r, line, e := witness.Audit("draw 1 1\nseal 1 " + hashed("1:0:a") + "\nopen 1 0 a\n"); !equal(r, api.AuditReport{Below: 1, Persons: 1, Over: true}) || line != 0 || e != api.OK {
		t.Error(r, line, e)
	}
}

// P11.8: the first line that is wrong, and its error.
func TestAuditFaults(t *testing.T) {
	h := sealOf(one)
	begun := "draw 12 2\nseal 1 " + h + "\n"
	full := begun + "seal 2 " + sealOf(two) + "\n"
	for _, c := range []struct {
		s    string
		line int
		e    api.Errno
	}{
		{"", 1, api.ErrForm}, {"\n", 1, api.ErrForm}, {" ", 1, api.ErrForm}, {"draw 12 2", 1, api.ErrForm}, {"draw 0 2", 1, api.ErrForm}, {"draw 12\n", 1, api.ErrForm}, {"draw\n", 1, api.ErrForm}, {"draw 12 2 \n", 1, api.ErrForm}, {" draw 12 2\n", 1, api.ErrForm}, {"draw 12  2\n", 1, api.ErrForm}, {"draw 12 2 2\n", 1, api.ErrForm}, {"draw 12 2\r\n", 1, api.ErrForm}, {"Draw 12 2\n", 1, api.ErrForm}, {"draw\t12 2\n", 1, api.ErrForm}, {"\ndraw 12 2\n", 1, api.ErrForm}, {"12 2\n", 1, api.ErrForm},
		{"draw 012 2\n", 1, api.ErrForm}, {"draw 12 02\n", 1, api.ErrForm}, {"draw 00 2\n", 1, api.ErrForm}, {"draw -1 2\n", 1, api.ErrForm}, {"draw -0 2\n", 1, api.ErrForm}, {"draw +1 2\n", 1, api.ErrForm}, {"draw 1_2 2\n", 1, api.ErrForm}, {"draw 0x1 2\n", 1, api.ErrForm}, {"draw a 2\n", 1, api.ErrForm}, {"draw 1e1 2\n", 1, api.ErrForm}, {"draw 1.0 2\n", 1, api.ErrForm}, {"draw 12 ２\n", 1, api.ErrForm}, {"draw 12 \xff\n", 1, api.ErrForm},
		{"draw 10000000000000000 2\n", 1, api.ErrForm}, {"draw 12 10000000000000000\n", 1, api.ErrForm}, {"draw 12 18446744073709551618\n", 1, api.ErrForm}, {"draw 9223372036854775807 2\n", 1, api.ErrForm}, {"draw 12 99999999999999999999999999\n", 1, api.ErrForm}, {"draw 9999999999999999 2\n", 1, api.ErrRange}, {"draw 12 9999999999999999\n", 1, api.ErrRange},
		{"draw 0 2\n", 1, api.ErrRange}, {"draw 12 0\n", 1, api.ErrRange}, {"draw 12 31\n", 1, api.ErrRange}, {"draw 1000000001 2\n", 1, api.ErrRange}, {"draw 1000000000 30\n", 0, api.OK}, {"draw 0 2\nx\n", 1, api.ErrRange},
		{"close\n", 1, api.ErrForm}, {"seal 1 " + h + "\n", 1, api.ErrForm}, {"open 1 7 oak\n", 1, api.ErrForm}, {"draw 12 2\n\n", 2, api.ErrForm}, {"draw 12 2\ndraw 12 2\n", 2, api.ErrForm}, {"draw 12 2\ndraw 0 2\n", 2, api.ErrForm}, {"draw 12 2\nclose\n", 2, api.ErrState}, {"draw 12 2\nclose", 2, api.ErrForm}, {"draw 12 2\nopen 1 7 oak\n", 2, api.ErrState}, {"draw 12 2\nvalue\n", 2, api.ErrForm}, {"draw 12 2\n ", 2, api.ErrForm},

		{begun + "seal 2\n", 3, api.ErrForm}, {begun + "seal\n", 3, api.ErrForm}, {begun + "seal 2 \n", 3, api.ErrForm}, {begun + "seal " + h + " 2\n", 3, api.ErrForm}, {begun + "seal 2 " + h + " \n", 3, api.ErrForm}, {begun + "seal 2 " + h + " a\n", 3, api.ErrForm}, {begun + "seal  2 " + h + "\n", 3, api.ErrForm}, {begun + "seal 2  " + h + "\n", 3, api.ErrForm}, {begun + "seal 02 " + h + "\n", 3, api.ErrForm}, {begun + "seal -2 " + h + "\n", 3, api.ErrForm}, {begun + "seal 2 " + h, 3, api.ErrForm}, {begun + "seal 2 " + h + "\r\n", 3, api.ErrForm}, {begun + "seal 2 " + h[1:] + "\n", 3, api.ErrForm}, {begun + "seal 2 " + strings.ToUpper(h[:15]) + "A\n", 3, api.ErrForm}, {begun + "Seal 2 " + h + "\n", 3, api.ErrForm},
		{begun + "seal 1 " + h + "\n", 3, api.ErrTwice}, {begun + "seal 1 " + h, 3, api.ErrForm}, {begun + "seal 1 00\n", 3, api.ErrForm}, {begun + "seal 0 " + h + "\n", 3, api.ErrNone}, {begun + "seal 3 " + h + "\n", 3, api.ErrNone}, {begun + "seal 9999999999999999 " + h + "\n", 3, api.ErrNone}, {begun + "seal 10000000000000000 " + h + "\n", 3, api.ErrForm}, {begun + "seal 2 " + h + "\n", 0, api.OK}, {begun + "close\n", 3, api.ErrState}, {begun + "open 1 7 oak\n", 3, api.ErrState}, {begun + "open 1 7 Oak\n", 3, api.ErrForm}, {begun + "open 1 12 oak\n", 3, api.ErrRange},

		{full + "open 2 9\n", 4, api.ErrForm}, {full + "open 2\n", 4, api.ErrForm}, {full + "open\n", 4, api.ErrForm}, {full + "open 2 elm 9\n", 4, api.ErrForm}, {full + "open 2 9 elm a\n", 4, api.ErrForm}, {full + "open 2 9  elm\n", 4, api.ErrForm}, {full + "open 2 9 \n", 4, api.ErrForm}, {full + "open 2 9 elm \n", 4, api.ErrForm}, {full + " open 2 9 elm\n", 4, api.ErrForm}, {full + "open 2 9 elm", 4, api.ErrForm}, {full + "open 2 09 elm\n", 4, api.ErrForm}, {full + "open 02 9 elm\n", 4, api.ErrForm}, {full + "open 2 -9 elm\n", 4, api.ErrForm}, {full + "open 2 9 Elm\n", 4, api.ErrForm}, {full + "open 2 9 elm\r\n", 4, api.ErrForm}, {full + "open 2 9 abcdefghijklmnopqrstu\n", 4, api.ErrForm}, {full + "open 2 9 abcdefghijklmnopqrst\n", 0, api.OK}, {full + "open 2 9 \xff\n", 4, api.ErrForm},
		{full + "open 0 9 elm\n", 4, api.ErrNone}, {full + "open 3 12 elm\n", 4, api.ErrNone}, {full + "open 9999999999999999 9 elm\n", 4, api.ErrNone}, {full + "open 10000000000000000 9 elm\n", 4, api.ErrForm}, {full + "open 2 12 elm\n", 4, api.ErrRange}, {full + "open 2 9999999999999999 elm\n", 4, api.ErrRange}, {full + "open 2 10000000000000000 elm\n", 4, api.ErrForm}, {full + "open 2 18446744073709551625 elm\n", 4, api.ErrForm}, {full + "open 2 9 elm\nopen 2 9 elm\n", 5, api.ErrTwice}, {full + "open 2 9 elm\nopen 1 7 oak\nopen 1 7 oak\n", 6, api.ErrState}, {full + "open 2 9 elm\nopen 1 7 oak\nclose\n", 6, api.ErrState},
		{full + "close now\n", 4, api.ErrForm}, {full + "close \n", 4, api.ErrForm}, {full + "close", 4, api.ErrForm}, {full + "closed\n", 4, api.ErrForm}, {full + "CLOSE\n", 4, api.ErrForm}, {full + "close\nclose\n", 5, api.ErrState}, {full + "close\nopen 2 9 elm\n", 5, api.ErrState}, {full + "close\nseal 1 " + h + "\n", 5, api.ErrTwice}, {full + "close\n\n", 5, api.ErrForm}, {full + "close\nx", 5, api.ErrForm}, {full + "close\n", 0, api.OK}, {full + "\n", 4, api.ErrForm}, {full + "\x00\n", 4, api.ErrForm},
		{full + "open 2 12 elm\nx\n", 4, api.ErrRange}, {full + "x\nopen 2 12 elm\n", 4, api.ErrForm},
	} {
		if line, e := heard(t, c.s); line != c.line || e != c.e {
			t.Errorf("%q %v %v", c.s, line, e)
		}
	}
}

// P11.8: for the form of a line the hash and the salt are any words: what is wrong with them is told by Seal and Open, in the order of their errors.
func TestAuditWords(t *testing.T) {
	full := ok(sealed(12, one, two).Text())
	for s, want := range map[string]api.Errno{"seal 3 x": api.ErrNone, "open 3 99 X": api.ErrNone, "open 1 99 X": api.ErrRange, "open 1 9 X": api.ErrForm} {
		if line, e := heard(t, full+s+"\n"); line != 4 || e != want {
			t.Error(s, line, e)
		}
	}
}

// P11.8: too many bytes, ahead of everything else.
func TestAuditLong(t *testing.T) {
	full := ok(played(12, one, two).Text())
	for i, c := range []struct {
		s    string
		line int
		e    api.Errno
	}{
		{strings.Repeat("x", 20001), 0, api.ErrLong}, {strings.Repeat("x", 20000), 1, api.ErrForm}, {strings.Repeat("\n", 20001), 0, api.ErrLong}, {strings.Repeat("\n", 20000), 1, api.ErrForm}, {strings.Repeat(" ", 20000), 1, api.ErrForm}, {strings.Repeat("draw 12 2\n", 2000), 2, api.ErrForm}, {strings.Repeat("draw 12 2\n", 2001), 0, api.ErrLong}, {full + strings.Repeat("x", 20000-len(full)), 6, api.ErrForm}, {full + strings.Repeat("x", 20001-len(full)), 0, api.ErrLong}, {"draw 12 2\nopen 1 1 " + strings.Repeat("a", 19979) + "\n", 2, api.ErrForm}, {"draw " + strings.Repeat("1", 19992) + " 1\n", 1, api.ErrForm},
	} {
		if line, e := heard(t, c.s); line != c.line || e != c.e {
			t.Error(i, line, e)
		}
	}
}

// noiseText returns the transcript of a drawing that follows no rule.
func noiseText(next func(int) int) string {
	r := newRecord(1+next(11), 1+next(2))
	var all []api.Box
	for k := range r.persons {
		all = append(all, api.Box{Person: k + 1, Value: next(r.below - 1), Salt: fmt.Sprint("s", next(9))})
	}
	for range next(8 * r.persons) {
		b := all[next(r.persons-1)]
		switch next(12) {
		case 0:
			r.close()
		case 1:
			b.Salt = "wrong"
			r.open(b)
		case 2, 3, 4, 5, 6:
			r.open(b)
		default:
			r.seal(b.Person, sealOf(b))
		}
	}
	return r.text()
}

// changed returns a text with another byte, line, or order of lines.
func changed(next func(int) int, s string) string {
	at, lines := next(len(s)), pieces(s)
	if len(lines) == 0 {
		return "draw 2 1\n"
	}
	i, j := next(len(lines)-1), next(len(lines)-1)
	switch next(7) {
	case 0:
		return s[:at]
	case 1:
		return s[:at] + "019af- \nsox"[next(10):][:1] + s[at:]
	case 2:
		return s[:at] + s[min(at+1, len(s)):]
	case 3:
		lines[i], lines[j] = lines[j], lines[i]
	case 4:
		lines = slices.Delete(lines, i, i+1)
	case 5:
		lines = slices.Insert(lines, i, lines[j])
	case 6:
		lines = append(lines, "close\n")
	case 7:
		lines = append(lines, fmt.Sprintf("open %d %d a\n", next(3), next(12)))
	}
	return strings.Join(lines, "")
}

// P11.8, P11.11: transcripts that differ from those of drawings by some changes, against the document's words.
func TestAuditChanged(t *testing.T) {
	next := noise(118)
	seen := map[api.Errno]int{}
	for range 8000 {
		s := noiseText(next)
		for range next(2) {
			s = changed(next, s)
		}
		_, e := heard(t, s)
		seen[e]++
		if e == api.OK {
			replayed(t, s)
		}
	}
	for _, e := range []api.Errno{api.OK, api.ErrForm, api.ErrState, api.ErrTwice, api.ErrNone, api.ErrRange} {
		if seen[e] < 20 {
			t.Error(e, seen[e])
		}
	}
}

// replayed checks that a transcript is the text of the drawing with these calls, and that the report says what its methods say.
func replayed(t *testing.T, s string) {
	t.Helper()
	report, _, _ := witness.Audit(s)
	lines := pieces(s)
	draw := draws.FindStringSubmatch(lines[0])
	d := ok(witness.New(ok(number(draw[1])), ok(number(draw[2]))))
	for _, line := range lines[1:] {
		var e api.Errno
		if seal, open := seals.FindStringSubmatch(line), opens.FindStringSubmatch(line); seal != nil {
			e = d.Seal(ok(number(seal[1])), seal[2])
		} else if open != nil {
			_, e = d.Open(api.Box{Person: ok(number(open[1])), Value: ok(number(open[2])), Salt: open[3]})
		} else {
			e = d.Close()
		}
		if e != api.OK {
			t.Fatalf("%q %q %v", s, line, e)
		}
	}
	value, e := d.Value()
	if e != api.OK {
		value = -1
	}
	want := api.AuditReport{Below: ok(number(draw[1])), Persons: ok(number(draw[2])), Over: e != api.ErrState, Value: value, Deviants: ok(d.Deviants())}
	if ok(d.Text()) != s || !equal(report, want) {
		t.Errorf("%q %q %v %v", s, ok(d.Text()), report, want)
	}
}

// P11.8, P11.11: any byte exchanged by any other one.
func TestAuditDamaged(t *testing.T) {
	d := sealed(12, one, two)
	ok(d.Open(one))
	ok(0, d.Close())
	for _, text := range []string{ok(d.Text()), ok(played(12, one, two).Text())} {
		for at := range len(text) {
			for c := range 256 {
				s := text[:at] + string([]byte{byte(c)}) + text[at+1:]
				if _, e := heard(t, s); e == api.OK {
					replayed(t, s)
				}
			}
		}
	}
}

package witness_test

import (
	"fmt"
	"slices"
	"strings"
	"testing"

	"astragal/api"
	"astragal/witness"
)

// The second example of the chapter.
func TestExampleOfValue(t *testing.T) {
	if v, e := played(12, one, two).Value(); v != 4 || e != api.OK {
		t.Error(v, e)
	}
}

// The fourth example of the chapter.
func TestExampleOfWrongBox(t *testing.T) {
	d := sealed(12, one, two)
	if right, e := d.Open(one); !right || e != api.OK {
		t.Error(right, e)
	}
	if right, e := d.Open(api.Box{Person: 2, Value: 9, Salt: "oak"}); right || e != api.OK {
		t.Error(right, e)
	}
	if v, e := d.Value(); v != 0 || e != api.ErrDeviant {
		t.Error(v, e)
	}
	if l, e := d.Deviants(); !slices.Equal(l, []api.Deviant{{Person: 2, Kind: api.WrongBox, Seal: 3, Line: 5}}) || e != api.OK {
		t.Error(l, e)
	}
}

// The fifth example of the chapter.
func TestExampleOfNoBox(t *testing.T) {
	d := sealed(12, one, two)
	ok(d.Open(one))
	if e := d.Close(); e != api.OK {
		t.Error(e)
	}
	if l, e := d.Deviants(); !slices.Equal(l, []api.Deviant{{Person: 2, Kind: api.NoBox, Seal: 3, Line: 5}}) || e != api.OK {
		t.Error(l, e)
	}
	if v, e := d.Value(); v != 0 || e != api.ErrDeviant {
		t.Error(v, e)
	}
}

// P11.4: which drawings there are, and that they begin without boxes.
func TestNew(t *testing.T) {
	for _, c := range [][2]int{{1, 1}, {12, 2}, {1000000000, 30}, {1, 30}, {1000000000, 1}} {
		d, e := witness.New(c[0], c[1])
		if d == nil || e != api.OK {
			t.Fatal(c, e)
		}
		if want := fmt.Sprintf("draw %d %d\n", c[0], c[1]); ok(d.Text()) != want {
			t.Error(c, ok(d.Text()))
		}
		l, e := d.Deviants()
		_, f := d.Value()
		if len(l) != 0 || e != api.OK || f != api.ErrState || d.Close() != api.ErrState {
			t.Error(c, l, e, f)
		}
	}
	invalid := [][2]int{{0, 2}, {-1, 2}, {1000000001, 2}, {2, 0}, {2, -1}, {2, 31}}
	for _, n := range extremes() {
		invalid = append(invalid, [2]int{n, 2}, [2]int{2, n}, [2]int{n, n})
	}
	for _, c := range invalid {
		if d, e := witness.New(c[0], c[1]); d != nil || e != api.ErrRange {
			t.Error(c, e)
		}
	}
}

// P11.4: seals, with their errors in their order.
func TestPost(t *testing.T) {
	d := ok(witness.New(12, 2))
	h, g := sealOf(one), sealOf(two)
	for i, c := range []struct {
		person int
		hash   string
		e      api.Errno
	}{
		{0, h, api.ErrNone}, {3, "", api.ErrNone}, {-1, h, api.ErrNone}, {31, h, api.ErrNone}, {2, "", api.ErrForm}, {2, g, api.OK}, {2, "", api.ErrForm}, {2, g, api.ErrTwice}, {2, h, api.ErrTwice}, {1, h[:15] + "g", api.ErrForm}, {1, g, api.OK}, {1, h, api.ErrTwice}, {3, h, api.ErrNone},
	} {
		if e := d.Seal(c.person, c.hash); e != c.e {
			t.Error(i, e)
		}
	}
	for _, n := range extremes() {
		if e := d.Seal(n, ""); e != api.ErrNone {
			t.Error(n, e)
		}
	}
	if s := ok(d.Text()); s != "draw 12 2\nseal 2 "+g+"\nseal 1 "+g+"\n" {
		t.Error(s)
	}
	ok(d.Open(one))
	if e := d.Close(); e != api.OK || d.Seal(1, h) != api.ErrTwice || d.Seal(1, "") != api.ErrForm || d.Seal(0, "") != api.ErrNone {
		t.Error(e)
	}
	for _, hash := range noHashes() {
		d := ok(witness.New(12, 1))
		if e := d.Seal(1, hash); e != api.ErrForm || ok(d.Text()) != "draw 12 1\n" {
			t.Errorf("%q %v", hash, e)
		}
	}
	for _, hash := range []string{"0123456789abcdef", "0000000000000000", "ffffffffffffffff"} {
		if d := ok(witness.New(12, 1)); d.Seal(1, hash) != api.OK || ok(d.Text()) != "draw 12 1\nseal 1 "+hash+"\n" {
			t.Error(hash)
		}
	}
}

// P11.5: openings, with their errors in their order.
func TestOpen(t *testing.T) {
	d := ok(witness.New(12, 2))
	ok(0, d.Seal(1, sealOf(one)))
	open := func(person, value int, salt string, want bool, wanted api.Errno) {
		t.Helper()
		before := ok(d.Text())
		right, e := d.Open(api.Box{Person: person, Value: value, Salt: salt})
		if right != want || e != wanted || (ok(d.Text()) == before) != (e != api.OK) {
			t.Error(person, value, salt, right, e)
		}
	}
	open(1, 7, "oak", false, api.ErrState)
	open(2, 9, "elm", false, api.ErrState)
	open(0, -1, "", false, api.ErrNone)
	open(3, 99, "A", false, api.ErrNone)
	open(1, 12, "A", false, api.ErrRange)
	open(1, -1, "oak", false, api.ErrRange)
	open(1, 11, "A", false, api.ErrForm)
	ok(0, d.Seal(2, sealOf(two)))
	open(2, 9, "elm", true, api.OK)
	open(2, 9, "elm", false, api.ErrTwice)
	open(2, 8, "elm", false, api.ErrTwice)
	open(2, 12, "elm", false, api.ErrRange)
	open(2, 9, "Elm", false, api.ErrForm)
	open(3, 9, "Elm", false, api.ErrNone)
	open(1, 7, "oak", true, api.OK)
	open(1, 7, "oak", false, api.ErrState)
	open(1, 7, "", false, api.ErrForm)
	open(1, 12, "", false, api.ErrRange)
	open(31, 12, "", false, api.ErrNone)
	d = sealed(1000000000, one)
	for _, n := range extremes() {
		open(n, n, "", false, api.ErrNone)
		open(1, n, "", false, api.ErrRange)
	}
	for _, salt := range invalidSalts() {
		open(1, 999999999, salt, false, api.ErrForm)
	}
	open(1, 999999999, "abcdefghijklmnopqrst", false, api.OK)
	if l := ok(d.Deviants()); len(l) != 1 {
		t.Error(l)
	}
}

// P11.5: another box than the sealed one is opened, too, and there is no second try; one with the same hash is the one that was sealed.
func TestOpenWrong(t *testing.T) {
	for _, b := range []api.Box{{Person: 1, Value: 6, Salt: "oak"}, {Person: 1, Value: 7, Salt: "oal"}, {Person: 1, Value: 7, Salt: "oa"}} {
		d := sealed(12, one)
		if right, e := d.Open(b); right || e != api.OK {
			t.Error(b, right, e)
		}
		if right, e := d.Open(one); right || e != api.ErrState {
			t.Error(b, right, e)
		}
		if e := d.Close(); e != api.ErrState {
			t.Error(b, e)
		}
		d = sealed(12, one, two)
		ok(d.Open(b))
		if right, e := d.Open(one); right || e != api.ErrTwice {
			t.Error(b, right, e)
		}
	}
	// The box of another person.
	d := ok(witness.New(12, 2))
	ok(0, d.Seal(1, sealOf(two)))
	ok(0, d.Seal(2, sealOf(two)))
	if right, e := d.Open(api.Box{Person: 1, Value: 9, Salt: "elm"}); right || e != api.OK {
		t.Error(right, e)
	}
	d = sealed(20, twins[0])
	if right, e := d.Open(twins[1]); !right || e != api.OK {
		t.Error(right, e)
	}
	if v, e := d.Value(); v != twins[1].Value || e != api.OK {
		t.Error(v, e)
	}
}

// P11.5: the closing of drawings.
func TestClose(t *testing.T) {
	d := ok(witness.New(12, 2))
	closing := func(want api.Errno) {
		t.Helper()
		before := ok(d.Text())
		if e := d.Close(); e != want || (ok(d.Text()) == before+"close\n") != (e == api.OK) {
			t.Error(e)
		}
	}
	closing(api.ErrState)
	ok(0, d.Seal(2, sealOf(two)))
	closing(api.ErrState)
	ok(0, d.Seal(1, sealOf(one)))
	closing(api.OK)
	closing(api.ErrState)
	if right, e := d.Open(one); right || e != api.ErrState {
		t.Error(right, e)
	}
	if right, e := d.Open(api.Box{Person: 3}); right || e != api.ErrNone {
		t.Error(right, e)
	}
	d = sealed(12, one, two)
	ok(d.Open(two))
	closing(api.OK)
	if _, e := d.Open(two); e != api.ErrState {
		t.Error("that it is over comes first", e)
	}
	d = played(12, one, two)
	closing(api.ErrState)
}

// P11.6: both kinds, ordered by persons, with the lines of seals and openings in any order, as soon as they deviate.
func TestDeviants(t *testing.T) {
	d := ok(witness.New(10, 4))
	all := boxes(1, 2, 3, 4)
	want := func(l ...api.Deviant) {
		t.Helper()
		if got, e := d.Deviants(); !slices.Equal(got, l) || e != api.OK {
			t.Error(got, e)
		}
	}
	for _, person := range []int{3, 1, 4, 2} {
		ok(0, d.Seal(person, sealOf(all[person-1])))
		want()
	}
	all[3].Value = 9
	ok(d.Open(all[3]))
	want(api.Deviant{Person: 4, Kind: 1, Seal: 4, Line: 6})
	ok(d.Open(all[2]))
	want(api.Deviant{Person: 4, Kind: 1, Seal: 4, Line: 6})
	if _, e := d.Value(); e != api.ErrState {
		t.Error("it is not over", e)
	}
	all[0].Salt = "other"
	ok(d.Open(all[0]))
	want(api.Deviant{Person: 1, Kind: 1, Seal: 3, Line: 8}, api.Deviant{Person: 4, Kind: 1, Seal: 4, Line: 6})
	ok(0, d.Close())
	want(api.Deviant{Person: 1, Kind: 1, Seal: 3, Line: 8}, api.Deviant{Person: 2, Kind: 2, Seal: 5, Line: 9}, api.Deviant{Person: 4, Kind: 1, Seal: 4, Line: 6})
	if v, e := d.Value(); v != 0 || e != api.ErrDeviant {
		t.Error(v, e)
	}
	d = sealed(10, boxes(1, 2, 3)...)
	ok(0, d.Close())
	want(api.Deviant{Person: 1, Kind: 2, Seal: 2, Line: 5}, api.Deviant{Person: 2, Kind: 2, Seal: 3, Line: 5}, api.Deviant{Person: 3, Kind: 2, Seal: 4, Line: 5})
	// Calls with errors have no lines.
	d = sealed(10, boxes(1, 2)...)
	d.Seal(1, sealOf(one))
	d.Open(api.Box{Person: 1, Value: 10, Salt: "a"})
	ok(d.Open(api.Box{Person: 2, Value: 1, Salt: "s1"}))
	d.Open(api.Box{Person: 2, Value: 2, Salt: "s1"})
	ok(0, d.Close())
	want(api.Deviant{Person: 1, Kind: 2, Seal: 2, Line: 5}, api.Deviant{Person: 2, Kind: 1, Seal: 3, Line: 4})
}

// P11.7: values of any size, and the state that they need.
func TestValue(t *testing.T) {
	for i, c := range []struct {
		below  int
		values []int
		want   int
	}{
		{12, []int{7, 9}, 4}, {12, []int{7}, 7}, {12, []int{0}, 0}, {12, []int{6, 6}, 0}, {1, []int{0, 0, 0}, 0}, {1000000000, slices.Repeat([]int{999999999}, 30), 999999970}, {1000000000, []int{999999999, 1}, 0}, {2, []int{1, 1, 1}, 1},
	} {
		if v, e := played(c.below, boxes(c.values...)...).Value(); v != c.want || e != api.OK {
			t.Error(i, v, e)
		}
	}
	d := sealed(12, one, two)
	if v, e := d.Value(); v != 0 || e != api.ErrState {
		t.Error(v, e)
	}
	ok(d.Open(one))
	if v, e := d.Value(); v != 0 || e != api.ErrState {
		t.Error(v, e)
	}
	ok(0, d.Close())
	if v, e := d.Value(); v != 0 || e != api.ErrDeviant {
		t.Error(v, e)
	}
}

// P11.4 to P11.8: drawings with any calls, against the document's words.
func TestNoiseDrawings(t *testing.T) {
	next := noise(114)
	ended, deviant := 0, 0
	for range 1500 {
		below, persons := 1+next(3), 1+next(3)
		d, r := ok(witness.New(below, persons)), newRecord(below, persons)
		same(t, d, r)
		for range next(12 + 4*persons) {
			b := api.Box{Person: next(persons + 1), Value: []int{0, 0, 0, next(below+1) - 1}[next(3)], Salt: []string{"a", "a", "a", "a", "b", "B"}[next(5)]}
			switch next(9) {
			case 0, 1, 2, 3:
				hash := []string{sealOf(b), sealOf(b), sealOf(b), "g"}[next(3)]
				if e, want := d.Seal(b.Person, hash), r.seal(b.Person, hash); e != want {
					t.Fatal(r.said, b, hash, e, want)
				}
			case 4:
				if next(3) == 0 {
					if e, want := d.Close(), r.close(); e != want {
						t.Fatal(r.said, e, want)
					}
				}
			default:
				right, e := d.Open(b)
				if want, wanted := r.open(b); right != want || e != wanted {
					t.Fatal(r.said, b, right, e, want, wanted)
				}
			}
			same(t, d, r)
		}
		switch _, e := d.Value(); e {
		case api.OK:
			ended++
		case api.ErrDeviant:
			deviant++
		}
	}
	if ended < 20 || deviant < 50 {
		t.Error(ended, deviant)
	}
}

// P11.9: whatever the others have, each value of one person draws another number.
func TestOneIsEnough(t *testing.T) {
	for below := 1; below <= 5; below++ {
		for others := range lists(2, below) {
			for at := range 3 {
				drawn := map[int]bool{}
				for value := range below {
					all := boxes(slices.Insert(slices.Clone(others), at, value)...)
					v := ok(played(below, all...).Value())
					if drawn[v] || v < 0 || v >= below {
						t.Fatal(below, others, at, value, v)
					}
					drawn[v] = true
				}
			}
		}
	}
}

// P11.10: nobody deviates but those who open another box than the sealed one, or none; two lines alone prove it, and there is no result.
func TestWhoDeviates(t *testing.T) {
	const right, wrong, never = 0, 1, 2
	for does := range lists(4, 3) {
		all := boxes(3, 1, 4, 1)
		d := sealed(10, all...)
		var want []int
		for k, what := range does {
			b := all[k]
			if what != right {
				want = append(want, k+1)
				b.Value++
			}
			if what != never {
				ok(d.Open(b))
			}
		}
		if slices.Contains(does, never) {
			ok(0, d.Close())
		}
		l := ok(d.Deviants())
		var persons []int
		for _, x := range l {
			persons = append(persons, x.Person)
			if kind := api.DeviantKind(does[x.Person-1]); x.Kind != kind || !proved(x, pieces(ok(d.Text()))) {
				t.Error(does, x)
			}
		}
		if !slices.Equal(persons, want) {
			t.Error(does, l)
		}
		if v, e := d.Value(); len(want) == 0 && (v != 9 || e != api.OK) || len(want) > 0 && (v != 0 || e != api.ErrDeviant) {
			t.Error(does, v, e)
		}
	}
}

// proved reports whether the two lines prove that a person deviates.
func proved(x api.Deviant, lines []string) bool {
	seal := seals.FindStringSubmatch(lines[x.Seal-1])
	if seal == nil || seal[1] != fmt.Sprint(x.Person) {
		return false
	}
	if x.Kind == api.NoBox {
		opening := func(line string) bool { return strings.HasPrefix(line, "open "+seal[1]+" ") }
		return lines[x.Line-1] == "close\n" && !slices.ContainsFunc(lines[:x.Line], opening)
	}
	open := opens.FindStringSubmatch(lines[x.Line-1])
	return open != nil && open[1] == seal[1] && hashed(open[1]+":"+open[2]+":"+open[3]) != seal[2]
}

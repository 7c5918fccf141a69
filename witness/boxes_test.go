package witness_test

import (
	"slices"
	"strings"
	"testing"

	"astragal/api"
	"astragal/witness"
)

// The first example of the chapter.
func TestExampleOfHash(t *testing.T) {
	for s, want := range map[string]string{"": "cbf29ce484222325", "a": "af63dc4c8601ec8c", "foobar": "85944171f73967e8"} {
		if h, e := witness.Hash(s); h != want || e != api.OK {
			t.Error(s, h, e)
		}
	}
}

// P11.1: hashes of texts of any bytes and lengths, against those of the library of the language.
func TestHash(t *testing.T) {
	next := noise(111)
	small := 0
	for n := range 1003 {
		text := make([]byte, n)
		for k := range text {
			text[k] = byte(next(255))
		}
		h, e := witness.Hash(string(text))
		if n <= 1000 && (h != hashed(string(text)) || e != api.OK) || n > 1000 && (h != "" || e != api.ErrLong) {
			t.Error(n, h, e)
		}
		if strings.HasPrefix(h, "0") {
			small++
		}
	}
	for c := range 256 {
		if s := string([]byte{byte(c)}); ok(witness.Hash(s)) != hashed(s) {
			t.Error(c)
		}
	}
	if small == 0 {
		t.Error("no hash with a 0 ahead")
	}
	if h := ok(witness.Hash(strings.Repeat("é", 500))); h != hashed(strings.Repeat("é", 500)) {
		t.Error(h)
	}
	if _, e := witness.Hash(strings.Repeat("é", 500) + "a"); e != api.ErrLong {
		t.Error("bytes are counted", e)
	}
}

// invalidBoxes returns boxes that are not valid for one reason each.
func invalidBoxes() []api.Box {
	l := []api.Box{{}, {Person: 1, Value: 1}, {Value: 1, Salt: "a"}, {Person: 31, Salt: "a"}, {Person: -1, Salt: "a"}, {Person: 1, Value: -1, Salt: "a"}, {Person: 1, Value: 1000000000, Salt: "a"}}
	for _, salt := range invalidSalts() {
		l = append(l, api.Box{Person: 1, Salt: salt})
	}
	for _, n := range extremes() {
		l = append(l, api.Box{Person: n, Salt: "a"}, api.Box{Person: 1, Value: n, Salt: "a"})
	}
	return l
}

// invalidSalts returns texts that are no salts.
func invalidSalts() []string {
	return []string{"", "A", "a ", " a", "a\n", "a:b", "-1", "a_", "a`", "a{", "a/", "a@", "é", "\xff", "\x00", "a\x00", "a\xe1", "aaaaaaaaaaaaaaaaaaaaa", strings.Repeat("a", 2000)}
}

// P11.1: the hash of each valid box is that of its text, and other boxes have none.
func TestSeal(t *testing.T) {
	if h, e := witness.Seal(api.Box{Person: 3, Value: 120, Salt: "oak"}); h != ok(witness.Hash("3:120:oak")) || e != api.OK {
		t.Error(h, e)
	}
	for _, b := range []api.Box{one, two, {Person: 1, Salt: "0"}, {Person: 30, Value: 999999999, Salt: "abcdefghijklmnopqrst"}, {Person: 9, Value: 10, Salt: "uvwxyz0123456789"}, {Person: 10, Value: 9, Salt: "00000000000000000000"}} {
		if h, e := witness.Seal(b); h != sealOf(b) || e != api.OK {
			t.Error(b, h, e)
		}
	}
	for _, b := range invalidBoxes() {
		if h, e := witness.Seal(b); h != "" || e != api.ErrArg {
			t.Error(b, h, e)
		}
	}
	for c := range 256 {
		b := api.Box{Person: 1, Salt: string([]byte{'a', byte(c)})}
		want := api.ErrArg
		if salts.MatchString(b.Salt) {
			want = api.OK
		}
		if _, e := witness.Seal(b); e != want {
			t.Error(c, e)
		}
	}
}

// noHashes returns texts that do not have the form of a hash.
func noHashes() []string {
	h := sealOf(one)
	l := []string{"", "0", h[1:], h + "0", " " + h[1:], h[1:] + " ", h[1:] + "\n", "0x" + h[2:], "+" + h[1:], "-" + h[1:], h[1:] + "_", strings.ToUpper(h[:15]) + "A", strings.Repeat("0", 17), strings.Repeat("f", 17), strings.Repeat("é", 8), strings.Repeat("\xff", 16), strings.Repeat("0", 2000)}
	for _, c := range "gGz/:@`AF\x00" {
		l = append(l, h[:15]+string(c), string(c)+h[1:])
	}
	return l
}

// P11.2: what is found, and what is not, with the errors in their order.
func TestGuess(t *testing.T) {
	b := api.Box{Person: 3, Value: 120, Salt: "oak"}
	h := sealOf(b)
	for i, c := range []struct {
		hash          string
		person, below int
		salts         []string
		want          api.Box
		e             api.Errno
	}{
		{h, 3, 200, []string{"elm", "oak"}, b, api.OK}, {h, 3, 121, []string{"elm", "oak"}, b, api.OK}, {h, 3, 120, []string{"elm", "oak"}, api.Box{}, api.ErrNone}, {h, 3, 200, []string{"oak", "oak", "elm"}, b, api.OK},
		{h, 2, 200, []string{"oak"}, api.Box{}, api.ErrNone}, {h, 3, 200, []string{"elm"}, api.Box{}, api.ErrNone}, {h, 3, 200, nil, api.Box{}, api.ErrNone}, {h, 3, 200, []string{}, api.Box{}, api.ErrNone}, {h, 3, 1000000000, nil, api.Box{}, api.ErrNone},
		{sealOf(api.Box{Person: 30, Salt: "a"}), 30, 1, []string{"a"}, api.Box{Person: 30, Salt: "a"}, api.OK},
		{"", 0, 0, []string{""}, api.Box{}, api.ErrForm}, {"0000000000000000", 1, 1, []string{"a"}, api.Box{}, api.ErrNone}, {"ffffffffffffffff", 1, 1, []string{"a"}, api.Box{}, api.ErrNone},
		{h, 0, 200, []string{"Oak"}, api.Box{}, api.ErrRange}, {h, 31, 200, nil, api.Box{}, api.ErrRange}, {h, 3, 0, []string{"Oak"}, api.Box{}, api.ErrRange}, {h, 3, -1, nil, api.Box{}, api.ErrRange}, {h, 3, 1000000001, []string{"oak"}, api.Box{}, api.ErrRange},
		{h, 3, 200, []string{"oak", "Oak"}, api.Box{}, api.ErrArg}, {h, 3, 1000000000, []string{"elm", ""}, api.Box{}, api.ErrArg},
		{h, 3, 50000, []string{"oak", "elm"}, b, api.OK}, {h, 3, 50001, []string{"oak", "elm"}, api.Box{}, api.ErrFull}, {h, 3, 100000, []string{"oak"}, b, api.OK}, {h, 3, 100001, []string{"oak"}, api.Box{}, api.ErrFull}, {h, 3, 1000000000, []string{"oak"}, api.Box{}, api.ErrFull},
		{h, 3, 33333, []string{"a", "b", "oak"}, b, api.OK}, {h, 3, 33334, []string{"oak", "b", "c"}, api.Box{}, api.ErrFull},
		{h, 3, 1, slices.Repeat([]string{"oak"}, 100000), api.Box{}, api.ErrNone}, {h, 3, 1, slices.Repeat([]string{"oak"}, 100001), api.Box{}, api.ErrFull}, {h, 3, 1, append(slices.Repeat([]string{"oak"}, 100001), "Oak"), api.Box{}, api.ErrArg},
	} {
		if b, e := witness.Guess(c.hash, c.person, c.below, c.salts); b != c.want || e != c.e {
			t.Error(i, b, e)
		}
	}
	for _, hash := range noHashes() {
		if b, e := witness.Guess(hash, 0, 0, nil); !zero(b) || e != api.ErrForm {
			t.Errorf("%q %v %v", hash, b, e)
		}
	}
	for _, salt := range invalidSalts() {
		if b, e := witness.Guess(h, 3, 200, []string{"oak", salt}); !zero(b) || e != api.ErrArg {
			t.Errorf("%q %v %v", salt, b, e)
		}
	}
}

// P11.2: of two boxes with the same hash, the first one is that with the salt that is tried first, whatever the values are.
func TestGuessTheFirst(t *testing.T) {
	a, b := twins[0], twins[1]
	h := ok(witness.Seal(a))
	if ok(witness.Seal(b)) != h {
		t.Fatal("the hashes differ")
	}
	for i, c := range []struct {
		below int
		salts []string
		want  api.Box
	}{
		{100, []string{a.Salt, b.Salt}, a}, {100, []string{b.Salt, a.Salt}, b}, {100, []string{"oak", a.Salt, "elm", b.Salt}, a}, {100, []string{a.Salt}, a}, {100, []string{b.Salt}, b}, {16, []string{a.Salt, b.Salt}, b}, {17, []string{a.Salt, b.Salt}, a},
	} {
		if found, e := witness.Guess(h, 1, c.below, c.salts); found != c.want || e != api.OK {
			t.Error(i, found, e)
		}
	}
}

// P11.13: the box that was sealed is found, and what is found has the hash.
func TestGuessed(t *testing.T) {
	next := noise(1113)
	letters := "az059kq"
	word := func() string {
		s := ""
		for range 1 + next(19) {
			s += letters[next(6):][:1]
		}
		return s
	}
	for range 400 {
		below := 1 + next(300)
		b := api.Box{Person: 1 + next(29), Value: next(below - 1), Salt: word()}
		tried := []string{word(), word(), word(), word()}
		hash, known := ok(witness.Seal(b)), next(1) == 0
		if known {
			tried[next(3)] = b.Salt
		}
		found, e := witness.Guess(hash, b.Person, below, tried)
		switch {
		case e == api.OK && (ok(witness.Seal(found)) != hash || found.Person != b.Person || found.Value >= below || !slices.Contains(tried, found.Salt)):
			t.Error(b, found)
		case known && e != api.OK || e != api.OK && e != api.ErrNone:
			t.Error(b, tried, e)
		}
	}
}

// The third example of the chapter.
func TestExampleOfSplit(t *testing.T) {
	if l, e := witness.Split(3, 10, []int{4, 8}); !slices.Equal(l, []int{4, 8, 1}) || e != api.OK {
		t.Error(l, e)
	}
}

// P11.3: shares and their errors, in their order.
func TestShares(t *testing.T) {
	most := slices.Repeat([]int{999999999}, 30)
	for i, c := range []struct {
		value, below int
		shares, want []int
		e            api.Errno
	}{
		{3, 10, nil, []int{3}, api.OK}, {2, 10, []int{2}, []int{2, 0}, api.OK}, {0, 1, []int{0, 0}, []int{0, 0, 0}, api.OK}, {0, 10, []int{9, 9}, []int{9, 9, 2}, api.OK}, {9, 10, []int{0}, []int{0, 9}, api.OK}, {0, 10, make([]int, 30), make([]int, 31), api.OK},
		{0, 1000000000, most, append(slices.Clone(most), 30), api.OK}, {999999999, 1000000000, most, append(slices.Clone(most), 29), api.OK},
		{10, 10, make([]int, 31), nil, api.ErrRange}, {-1, 10, []int{10}, nil, api.ErrRange}, {0, 0, make([]int, 31), nil, api.ErrRange}, {0, -1, nil, nil, api.ErrRange}, {0, 1000000001, nil, nil, api.ErrRange}, {1, 1, nil, nil, api.ErrRange},
		{0, 10, append(make([]int, 30), 10), nil, api.ErrLong}, {0, 10, []int{10}, nil, api.ErrArg}, {0, 10, []int{0, -1}, nil, api.ErrArg}, {0, 10, append(make([]int, 29), 10), nil, api.ErrArg},
	} {
		if l, e := witness.Split(c.value, c.below, c.shares); !slices.Equal(l, c.want) || e != c.e {
			t.Error(i, l, e)
		}
	}
	for i, c := range []struct {
		below  int
		shares []int
		want   int
		e      api.Errno
	}{
		{10, []int{4, 8, 1}, 3, api.OK}, {10, nil, 0, api.OK}, {10, []int{}, 0, api.OK}, {10, []int{9}, 9, api.OK}, {10, []int{5, 5}, 0, api.OK}, {1, make([]int, 30), 0, api.OK}, {1000000000, most, 999999970, api.OK},
		{0, make([]int, 31), 0, api.ErrRange}, {-5, nil, 0, api.ErrRange}, {1000000001, nil, 0, api.ErrRange}, {10, append(make([]int, 30), -1), 0, api.ErrLong}, {10, make([]int, 5000), 0, api.ErrLong}, {10, []int{1, 10}, 0, api.ErrArg}, {10, []int{-1, 1}, 0, api.ErrArg}, {1, []int{1}, 0, api.ErrArg},
	} {
		if n, e := witness.Combine(c.below, c.shares); n != c.want || e != c.e {
			t.Error(i, n, e)
		}
	}
	for _, n := range extremes() {
		_, e := witness.Split(n, 10, nil)
		_, f := witness.Split(0, n, nil)
		_, g := witness.Combine(n, nil)
		if e != api.ErrRange || f != api.ErrRange || g != api.ErrRange {
			t.Error(n, e, f, g)
		}
		_, e = witness.Split(0, 10, []int{1, n})
		_, f = witness.Combine(10, []int{n})
		if e != api.ErrArg || f != api.ErrArg {
			t.Error(n, e, f)
		}
	}
}

// P11.3, P11.12: for each value there is just one share that is missing, wherever it is, and it is the one that Split adds.
func TestMissingShare(t *testing.T) {
	for below := 1; below <= 6; below++ {
		for size := range 4 {
			for given := range lists(size, below) {
				for value := range below {
					all := ok(witness.Split(value, below, given))
					if !slices.Equal(all[:size], given) || len(all) != size+1 {
						t.Fatal(value, below, given, all)
					}
					for at := range size + 1 {
						var found []int
						for share := range below {
							if ok(witness.Combine(below, slices.Insert(slices.Clone(given), at, share))) == value {
								found = append(found, share)
							}
						}
						if !slices.Equal(found, all[size:]) {
							t.Fatal(value, below, given, all, found)
						}
					}
				}
			}
		}
	}
}

package verse_test

import (
	"math"
	"slices"
	"testing"

	"astragal/api"
	"astragal/verse"
)

// keysOf returns the keys of all verses of a book.
func keysOf(b api.VerseBook) []string {
	var l []string
	for _, v := range b.Verses {
		l = append(l, v.Key)
	}
	return l
}

// seesOf returns the references of the verse with a key.
func seesOf(b api.VerseBook, key string) []string {
	return b.Verses[slices.Index(keysOf(b), key)].Sees
}

// reached returns what one reaches from each verse: by one reference, or by what is reached from where one reference leads.
func reached(b api.VerseBook) map[string]map[string]bool {
	all := map[string]map[string]bool{}
	for _, key := range keysOf(b) {
		all[key] = map[string]bool{}
	}
	for range keysOf(b) {
		for _, key := range keysOf(b) {
			for _, to := range seesOf(b, key) {
				all[key][to] = true
				for far := range all[to] {
					all[key][far] = true
				}
			}
		}
	}
	return all
}

// waysBack returns all ways of so many verses from a verse back to it, in ascending order.
func waysBack(b api.VerseBook, way []string, left int) [][]string {
	var all [][]string
	for _, to := range seesOf(b, way[len(way)-1]) {
		if left == 1 && to == way[0] {
			all = append(all, way)
		}
		if left > 1 {
			all = append(all, waysBack(b, append(slices.Clone(way), to), left-1)...)
		}
	}
	return all
}

// ringOf returns the ring of a verse, found by trying all ways, the shorter ones first; nil if there is none.
func ringOf(b api.VerseBook, key string) []string {
	for length := range b.Verses {
		if all := waysBack(b, []string{key}, length+1); len(all) > 0 {
			return slices.MinFunc(all, slices.Compare)
		}
	}
	return nil
}

// noiseNet returns a book with so many verses whose references follow no rule, about one of so many of all that there could be.
func noiseNet(next func(int) int, verses, of int) api.VerseBook {
	b := api.VerseBook{Name: "net"}
	all := map[string]bool{}
	for len(all) < verses {
		all[noiseWord(next, 2)] = true
	}
	for _, key := range sorted(all) {
		v := plain(key)
		for _, to := range sorted(all) {
			if next(of-1) == 0 {
				v.Sees = append(v.Sees, to)
			}
		}
		b.Verses = append(b.Verses, v)
	}
	return b
}

// P7.4, P7.9: what is reached, and rings, against all ways that there are.
func TestReachAndRing(t *testing.T) {
	next := noise(74)
	rings := map[int]int{}
	for i := range 3000 {
		b := noiseNet(next, 1+next(5), 1+next(4))
		was, all := copied(b), reached(b)
		for _, key := range keysOf(b) {
			l, e := verse.Reach(b, key)
			if want := sorted(all[key]); !slices.Equal(l, want) || e != api.OK {
				t.Fatal(i, b, key, l, e, want)
			}
			ring, e := verse.Ring(b, key)
			rings[len(ring)]++
			if want := ringOf(b, key); !slices.Equal(ring, want) || (e == api.ErrRing) != (want == nil) || e != api.OK && e != api.ErrRing {
				t.Fatal(i, b, key, ring, e, want)
			}
		}
		if !equal(b, was) {
			t.Fatal(b, was)
		}
	}
	for length := range 6 {
		if rings[length] == 0 {
			t.Error(length, rings)
		}
	}
}

// P7.9: what one reaches from what one reaches is reached; a ring is there just if a verse reaches itself, and its keys refer to each other.
func TestReferencesAgree(t *testing.T) {
	next := noise(79)
	for range 60 {
		b := noiseNet(next, 1+next(25), 2+next(30))
		for _, key := range keysOf(b) {
			l := ok(verse.Reach(b, key))
			for _, to := range l {
				for _, far := range ok(verse.Reach(b, to)) {
					if !slices.Contains(l, far) {
						t.Fatal(b, key, to, far)
					}
				}
			}
			ring, e := verse.Ring(b, key)
			if (e == api.OK) != slices.Contains(l, key) || (e == api.OK) != (len(ring) > 0) {
				t.Fatal(b, key, ring, e)
			}
			for i, at := range ring {
				if !slices.Contains(seesOf(b, at), ring[(i+1)%len(ring)]) || ring[0] != key {
					t.Fatal(b, key, ring)
				}
			}
		}
	}
}

// P7.4: in the greatest books, ways through all verses, and references of all to many.
func TestLongWays(t *testing.T) {
	b := great()
	for i := range b.Verses {
		b.Verses[i].Sees = []string{b.Verses[(i+1)%200].Key}
	}
	l, e := verse.Reach(b, "verse-000077")
	ring, f := verse.Ring(b, "verse-000077")
	want := append(keysOf(b)[77:], keysOf(b)[:77]...)
	if !slices.Equal(l, keysOf(b)) || e != api.OK || !slices.Equal(ring, want) || f != api.OK {
		t.Error(l, e, ring, f)
	}
	b = great()
	l, e = verse.Reach(b, "verse-000199")
	if len(l) != 20 || e != api.OK || !slices.Equal(l, b.Verses[0].Sees) {
		t.Error(l, e)
	}
	if ring, e := verse.Ring(b, "verse-000199"); len(ring) != 0 || e != api.ErrRing {
		t.Error(ring, e)
	}
	if ring, e := verse.Ring(b, "verse-000171"); !slices.Equal(ring, []string{"verse-000171"}) || e != api.OK {
		t.Error(ring, e)
	}
}

// P7.4: keys of no verse.
func TestNoKeys(t *testing.T) {
	b := example()
	b.Verses[1].Sees = []string{"a1", "b2"}
	for _, key := range []string{"", "a", "a2", "a1 ", "A1", "small", "go", "b", "b22", "\xff"} {
		l, e := verse.Reach(b, key)
		ring, f := verse.Ring(b, key)
		if len(l) != 0 || e != api.ErrNone || len(ring) != 0 || f != api.ErrNone {
			t.Error(key, l, e, ring, f)
		}
	}
	if l, e := verse.Reach(api.VerseBook{Name: "n"}, "n"); len(l) != 0 || e != api.ErrNone {
		t.Error(l, e)
	}
	if l, e := verse.Ring(api.VerseBook{Name: "n"}, "n"); len(l) != 0 || e != api.ErrNone {
		t.Error(l, e)
	}
}

// The third example of the chapter.
func TestExampleOfReferences(t *testing.T) {
	b := example()
	if l, e := verse.Reach(b, "a1"); !slices.Equal(l, []string{"b2"}) || e != api.OK {
		t.Error(l, e)
	}
	if l, e := verse.Reach(b, "b2"); len(l) != 0 || e != api.OK {
		t.Error(l, e)
	}
	for _, key := range keysOf(b) {
		if ring, e := verse.Ring(b, key); len(ring) != 0 || e != api.ErrRing {
			t.Error(key, ring, e)
		}
	}
	b.Verses[1].Sees = []string{"a1"}
	if ring, e := verse.Ring(b, "b2"); !slices.Equal(ring, []string{"b2", "a1"}) || e != api.OK {
		t.Error(ring, e)
	}
}

// P7.3: For and Missing, figure by figure.
func TestFigures(t *testing.T) {
	next := noise(73)
	for range 500 {
		b := noiseBook(next, 7)
		was := copied(b)
		var none, several []api.Figure
		for f := range api.Figure(16) {
			var of []string
			for _, v := range b.Verses {
				for _, g := range v.Figures {
					if f == g {
						of = append(of, v.Key)
					}
				}
			}
			if l, e := verse.For(b, f); !slices.Equal(l, of) || e != api.OK {
				t.Fatal(b, f, l, e)
			}
			if len(of) == 0 {
				none = append(none, f)
			}
			if len(of) > 1 {
				several = append(several, f)
			}
		}
		if l, m, e := verse.Missing(b); !slices.Equal(l, none) || !slices.Equal(m, several) || e != api.OK {
			t.Fatal(b, l, m, e)
		}
		if !equal(b, was) {
			t.Fatal(b, was)
		}
	}
	for _, f := range []api.Figure{-1, 16, 17, 255, 256, math.MinInt, math.MaxInt, 1 << 32} {
		if l, e := verse.For(example(), f); len(l) != 0 || e != api.ErrArg {
			t.Error(f, l, e)
		}
	}
	if l, e := verse.For(great(), 15); len(l) != 200 || e != api.OK {
		t.Error(l, e)
	}
	if l, m, e := verse.Missing(great()); len(l) != 0 || len(m) != 16 || e != api.OK {
		t.Error(l, m, e)
	}
}

// R4: lists of keys are new memory.
func TestReferenceMemory(t *testing.T) {
	b := example()
	b.Verses[1].Sees, b.Verses[1].Figures = []string{"a1", "b2"}, []api.Figure{15}
	was := copied(b)
	for range 2 {
		reach, ring, of := ok(verse.Reach(b, "a1")), ok(verse.Ring(b, "a1")), ok(verse.For(b, 15))
		for _, l := range [][]string{reach, ring, of} {
			if !slices.Equal(l, []string{"a1", "b2"}) {
				t.Error(l)
			}
		}
		for _, l := range [][]string{reach, ring, of} {
			l = l[:cap(l)]
			for i := range l {
				l[i] = "spoilt"
			}
		}
		none, several, e := verse.Missing(b)
		if len(none) != 14 || !slices.Equal(several, []api.Figure{15}) || e != api.OK {
			t.Error(none, several, e)
		}
		clear(none[:cap(none)])
		if !slices.Equal(several, []api.Figure{15}) || !equal(b, was) {
			t.Error(none, several, b)
		}
	}
}

package hexagram_test

import (
	"math"
	"slices"
	"strings"
	"testing"

	"astragal/api"
	"astragal/hexagram"
)

// matches reports whether a hexagram matches a pattern, line by line.
func matches(h int, pattern string) bool {
	for i, is := range draw(h) {
		switch pattern[i] {
		case '1':
			if !is {
				return false
			}
		case '0':
			if is {
				return false
			}
		}
	}
	return true
}

// matching lists the hexagrams that match a pattern.
func matching(pattern string) uint64 {
	set := uint64(0)
	for h := range 64 {
		if matches(h, pattern) {
			set |= 1 << h
		}
	}
	return set
}

// everyPattern returns all patterns in ascending order.
func everyPattern() []string {
	l := []string{""}
	for range 6 {
		var longer []string
		for _, p := range l {
			longer = append(longer, p+"?", p+"1", p+"0")
		}
		l = longer
	}
	slices.Sort(l)
	return l
}

// P4.8: each pattern alone, and unions of them.
func TestWhere(t *testing.T) {
	next, all := noise(48), everyPattern()
	if len(all) != 729 {
		t.Fatal(len(all))
	}
	for _, p := range all {
		if set := ok(hexagram.Where([]string{p})); set != matching(p) {
			t.Error(p, set)
		}
	}
	for n := range 41 {
		patterns, want := []string{}, uint64(0)
		for range n {
			p := all[next(728)]
			patterns, want = append(patterns, p), want|matching(p)
		}
		was := slices.Clone(patterns)
		if set := ok(hexagram.Where(patterns)); set != want || !slices.Equal(was, patterns) {
			t.Error(patterns, set, want)
		}
	}
}

// P4.8: too many patterns, then what is no pattern.
func TestNoPatterns(t *testing.T) {
	for _, n := range []int{41, 42, 1000} {
		for _, p := range []string{"??????", "", "000"} {
			if set, e := hexagram.Where(slices.Repeat([]string{p}, n)); set != 0 || e != api.ErrLong {
				t.Error(n, p, set, e)
			}
		}
	}
	for _, p := range []string{"", "1", "11111", "1111111", "11 111", "11x111", "x11111", "11111x", "222222", "1111*1", "??????\n", "?????\x00", "１1111", "é1111", "11111\xff", "0 1 0 ", "/01?00", ":01?00", "@@@@@@", ">>>>>>", strings.Repeat("?", 1000)} {
		for _, l := range [][]string{{p}, {"??????", p}, {p, "010101"}, append(slices.Repeat([]string{"000000"}, 39), p)} {
			if set, e := hexagram.Where(l); set != 0 || e != api.ErrForm {
				t.Error(l, set, e)
			}
		}
	}
}

// sets returns sets of many kinds.
func sets() []uint64 {
	next := noise(49)
	l := []uint64{0, math.MaxUint64, 1, 1 << 63, matching("11????"), matching("??????") &^ 1, matching("1?????") | matching("?1????"), 0x6996966996696996, ^uint64(0x6996966996696996)}
	for n := range 60 {
		set := noiseSet(next, 1+n%6)
		for range n % 4 {
			set |= matching(everyPattern()[next(728)])
		}
		l = append(l, set)
	}
	return l
}

// P4.9, P4.15: all patterns against all others.
func TestPatterns(t *testing.T) {
	all, of := everyPattern(), map[string]uint64{}
	for _, p := range all {
		of[p] = matching(p)
	}
	for _, set := range sets() {
		var inside, want []string
		for _, p := range all {
			if of[p]&^set == 0 {
				inside = append(inside, p)
			}
		}
		for _, p := range inside {
			part := func(q string) bool { return q != p && of[p]&^of[q] == 0 }
			if !slices.ContainsFunc(inside, part) {
				want = append(want, p)
			}
		}
		l := hexagram.Patterns(set)
		if !slices.Equal(l, want) {
			t.Error(ofSet(set), l, want)
		}
		back := uint64(0)
		for some := range slices.Chunk(l, 40) {
			back |= ok(hexagram.Where(some))
		}
		if back != set {
			t.Error(ofSet(set), ofSet(back))
		}
		for _, p := range l {
			for i := range p {
				if p[i] != '?' && matching(p[:i]+"?"+p[i+1:])&^set == 0 {
					t.Error(ofSet(set), p, i)
				}
			}
		}
	}
}

// P4.10, P4.15: hexagram by hexagram, and unions.
func TestImage(t *testing.T) {
	next, all := noise(410), sets()
	for k, set := range all {
		ops := make([]api.HexOp, k%21)
		for n := range ops {
			ops[n] = api.HexOp(next(3))
		}
		was, want := slices.Clone(ops), uint64(0)
		for _, h := range ofSet(set) {
			want |= setOf(made(h, ops...))
		}
		image := ok(hexagram.Image(set, ops))
		if image != want || !slices.Equal(ops, was) {
			t.Error(ofSet(set), was, ops, ofSet(image))
		}
		other := all[next(len(all)-1)]
		if ok(hexagram.Image(set|other, ops)) != image|ok(hexagram.Image(other, ops)) {
			t.Error(ofSet(set), ofSet(other), ops)
		}
	}
}

// P4.10: too many operations, then what is none, also of no hexagrams at all.
func TestImageErrors(t *testing.T) {
	for _, set := range []uint64{0, 1, math.MaxUint64} {
		for _, ops := range [][]api.HexOp{make([]api.HexOp, 21), slices.Repeat([]api.HexOp{4}, 21)} {
			if image, e := hexagram.Image(set, ops); image != 0 || e != api.ErrLong {
				t.Error(set, ops, image, e)
			}
		}
		for _, op := range noOperations() {
			for _, ops := range [][]api.HexOp{{op}, {0, op}, {op, 1}} {
				if image, e := hexagram.Image(set, ops); image != 0 || e != api.ErrArg {
					t.Error(set, ops, image, e)
				}
			}
		}
	}
}

// P4.10, P4.15: by the lines in which hexagrams differ; some lines and then others.
func TestNear(t *testing.T) {
	for _, set := range sets() {
		for lines := range 7 {
			want := uint64(0)
			for h := range 64 {
				for _, other := range ofSet(set) {
					differ, d := 0, draw(other)
					for i, is := range draw(h) {
						if is != d[i] {
							differ++
						}
					}
					if differ <= lines {
						want |= setOf(h)
					}
				}
			}
			near := ok(hexagram.Near(set, lines))
			if near != want {
				t.Error(ofSet(set), lines, ofSet(near))
			}
			for more := range 7 - lines {
				if ok(hexagram.Near(near, more)) != ok(hexagram.Near(set, lines+more)) {
					t.Error(ofSet(set), lines, more)
				}
			}
		}
		for _, lines := range []int{math.MinInt, -1, 7, 8, math.MaxInt} {
			if near, e := hexagram.Near(set, lines); near != 0 || e != api.ErrRange {
				t.Error(ofSet(set), lines, near, e)
			}
		}
	}
}

// The seventh example of the chapter.
func TestExampleOfQuestions(t *testing.T) {
	set := ok(hexagram.Where([]string{"111???", "???111"}))
	if l := hexagram.Patterns(set); len(ofSet(set)) != 15 || !slices.Equal(l, []string{"111???", "???111"}) {
		t.Error(ofSet(set), l)
	}
	if l := hexagram.Patterns(setOf(0, 1, 3)); !slices.Equal(l, []string{"1?0000", "?00000"}) {
		t.Error(l)
	}
}

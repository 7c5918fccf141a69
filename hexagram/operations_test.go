package hexagram_test

import (
	"math"
	"slices"
	"testing"

	"astragal/api"
	"astragal/hexagram"
)

// P4.2: all operations on all hexagrams, and many one after another.
func TestApply(t *testing.T) {
	next := noise(42)
	for h := range 64 {
		if got := ok(hexagram.Apply(h, nil)); got != h {
			t.Error(h, got)
		}
		for op := range api.HexOp(4) {
			if got := ok(hexagram.Apply(h, []api.HexOp{op})); got != made(h, op) {
				t.Error(h, op, got)
			}
		}
		for n := range 21 {
			ops := make([]api.HexOp, n)
			for k := range ops {
				ops[k] = api.HexOp(next(3))
			}
			was := slices.Clone(ops)
			if got := ok(hexagram.Apply(h, ops)); got != made(h, was...) || !slices.Equal(ops, was) {
				t.Error(h, was, ops, got)
			}
		}
	}
}

// P4.2: no hexagram, then too many operations, then what is none.
func TestApplyErrors(t *testing.T) {
	many := make([]api.HexOp, 21)
	many[20] = 4
	for _, h := range noHexagrams() {
		for _, ops := range [][]api.HexOp{nil, {0}, {4}, many} {
			if got, e := hexagram.Apply(h, ops); got != 0 || e != api.ErrRange {
				t.Error(h, ops, got, e)
			}
		}
	}
	for _, ops := range [][]api.HexOp{many, many[:21:21], make([]api.HexOp, 21), make([]api.HexOp, 5000)} {
		if got, e := hexagram.Apply(9, ops); got != 0 || e != api.ErrLong {
			t.Error(len(ops), got, e)
		}
	}
	for _, op := range noOperations() {
		for place := range 20 {
			ops := make([]api.HexOp, 20)
			ops[place] = op
			if got, e := hexagram.Apply(9, ops); got != 0 || e != api.ErrArg {
				t.Error(ops, got, e)
			}
		}
	}
}

// P4.11: what operations undo, and in which order.
func TestThereAndBack(t *testing.T) {
	for h := range 64 {
		for a := range api.HexOp(3) {
			if got := ok(hexagram.Apply(h, []api.HexOp{a, a})); got != h {
				t.Error(h, a, got)
			}
			for b := range api.HexOp(3) {
				if ok(hexagram.Apply(h, []api.HexOp{a, b})) != ok(hexagram.Apply(h, []api.HexOp{b, a})) {
					t.Error(h, a, b)
				}
			}
		}
	}
}

// P4.3, P4.12: each element is the nuclear one of that before it, none is there twice, and back is where the next one is.
func TestChain(t *testing.T) {
	backs := map[int]bool{}
	for h := range 64 {
		l, back, e := hexagram.Chain(h)
		if e != api.OK || len(l) == 0 || l[0] != h {
			t.Fatal(h, l, back, e)
		}
		for k, next := range l[1:] {
			if next != made(l[k], api.HexNuclear) || slices.Contains(l[:k+1], next) {
				t.Error(h, l, k)
			}
		}
		last := len(l) - 1
		if back != slices.Index(l, made(l[last], api.HexNuclear)) {
			t.Error(h, l, back)
		}
		if back != last && back != last-1 || back > 2 || back < 0 {
			t.Error(h, l, back)
		}
		backs[back] = true
	}
	if len(backs) != 3 {
		t.Error(backs)
	}
	for _, h := range noHexagrams() {
		if l, back, e := hexagram.Chain(h); len(l) != 0 || back != 0 || e != api.ErrRange {
			t.Error(h, l, back, e)
		}
	}
}

// opsOf returns the operations of a set.
func opsOf(set int) []api.HexOp {
	var ops []api.HexOp
	for _, op := range []api.HexOp{0, 1, 2, 3} {
		if set%2 == 1 {
			ops = append(ops, op)
		}
		set /= 2
	}
	return ops
}

// P4.4: what can be made grows until nothing more is added.
func TestOrbit(t *testing.T) {
	for set := range 16 {
		for h := range 64 {
			want := map[int]bool{h: true}
			for n := 0; n != len(want); {
				n = len(want)
				for _, x := range slices.Collect(keys(want)) {
					for _, op := range opsOf(set) {
						want[made(x, op)] = true
					}
				}
			}
			l := ok(hexagram.Orbit(h, set))
			if !slices.Equal(l, slices.Sorted(keys(want))) {
				t.Error(h, set, l)
			}
		}
	}
}

// keys yields the keys of a map.
func keys[K comparable, V any](m map[K]V) func(func(K) bool) {
	return func(yield func(K) bool) {
		for k := range m {
			if !yield(k) {
				return
			}
		}
	}
}

// P4.4: all maps that long enough courses of operations make.
func TestMaps(t *testing.T) {
	for set := range 16 {
		all := map[[64]int]bool{}
		last := [][64]int{{}}
		for h := range 64 {
			last[0][h] = h
		}
		for len(last) > 0 {
			var added [][64]int
			for _, m := range last {
				if all[m] {
					continue
				}
				all[m] = true
				for _, op := range opsOf(set) {
					n := m
					for h := range n {
						n[h] = made(n[h], op)
					}
					added = append(added, n)
				}
			}
			last = added
		}
		if n := ok(hexagram.Maps(set)); n != len(all) {
			t.Error(set, n, len(all))
		}
	}
}

// P4.4: no hexagram, then no set.
func TestNoSets(t *testing.T) {
	for _, set := range []int{math.MinInt, -16, -1, 16, 17, 32, 1 << 32, math.MaxInt} {
		if n, e := hexagram.Maps(set); n != 0 || e != api.ErrArg {
			t.Error(set, n, e)
		}
		if l, e := hexagram.Orbit(7, set); len(l) != 0 || e != api.ErrArg {
			t.Error(set, l, e)
		}
		if l, e := hexagram.Orbit(64, set); len(l) != 0 || e != api.ErrRange {
			t.Error(set, l, e)
		}
	}
	for _, h := range noHexagrams() {
		if l, e := hexagram.Orbit(h, 3); len(l) != 0 || e != api.ErrRange {
			t.Error(h, l, e)
		}
	}
}

// R4: what was returned once may be changed.
func TestNewLists(t *testing.T) {
	clear(ok(hexagram.Orbit(53, 15)))
	l, _, _ := hexagram.Chain(53)
	clear(l)
	if l := ok(hexagram.Orbit(53, 3)); !slices.Equal(l, []int{10, 20, 43, 53}) {
		t.Error(l)
	}
	if l, _, _ := hexagram.Chain(53); !slices.Equal(l, []int{53, 42, 21}) {
		t.Error(l)
	}
}

// The examples 2 to 4 of the chapter.
func TestExamplesOfOperations(t *testing.T) {
	for op, want := range []int{43, 10, 46, 42} {
		if h := ok(hexagram.Apply(53, []api.HexOp{api.HexOp(op)})); h != want {
			t.Error(op, h)
		}
	}
	if l, back, e := hexagram.Chain(53); !slices.Equal(l, []int{53, 42, 21}) || back != 1 || e != api.OK {
		t.Error(l, back, e)
	}
	if l, back, e := hexagram.Chain(63); !slices.Equal(l, []int{63}) || back != 0 || e != api.OK {
		t.Error(l, back, e)
	}
	if l := ok(hexagram.Orbit(53, 3)); !slices.Equal(l, []int{10, 20, 43, 53}) || ok(hexagram.Maps(3)) != 4 {
		t.Error(l)
	}
}

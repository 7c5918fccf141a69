package witness_test

import (
	"slices"
	"strings"
	"testing"

	"astragal/api"
	"astragal/witness"
)

// R3, P11.4 to P11.8: the methods of a nil drawing, whatever they are given.
func TestNoDrawing(t *testing.T) {
	var d *witness.Drawing
	if e := d.Seal(0, ""); e != api.ErrNil {
		t.Error(e)
	}
	if right, e := d.Open(api.Box{}); right || e != api.ErrNil {
		t.Error(right, e)
	}
	if e := d.Close(); e != api.ErrNil {
		t.Error(e)
	}
	if v, e := d.Value(); v != 0 || e != api.ErrNil {
		t.Error(v, e)
	}
	if l, e := d.Deviants(); len(l) != 0 || e != api.ErrNil {
		t.Error(l, e)
	}
	if s, e := d.Text(); s != "" || e != api.ErrNil {
		t.Error(s, e)
	}
}

// P1, R2: all functions terminate without a panic, whatever they are given, with zero values beside an error.
func TestAnyArguments(t *testing.T) {
	check := func(e api.Errno, results ...any) {
		t.Helper()
		if e != api.OK && !zero(results...) {
			t.Error(results, e)
		}
	}
	numbers := append(extremes(), -1, 0, 1, 2, 30, 31, 1000000000, 1000000001)
	texts := slices.Concat(invalidSalts(), noHashes(), []string{"a", sealOf(one), strings.Repeat("\xff", 30000), strings.Repeat("a\n", 10001)})
	for _, s := range texts {
		h, e := witness.Hash(s)
		check(e, h)
		r, _, e := witness.Audit(s)
		check(e, r)
	}
	for _, below := range numbers {
		for _, n := range numbers {
			for _, l := range [][]int{nil, {n}, {0, n}, numbers, slices.Repeat([]int{n}, 31)} {
				shares, e := witness.Split(n, below, l)
				check(e, shares)
				value, e := witness.Combine(below, l)
				check(e, value)
			}
			b, e := witness.Guess(sealOf(one), n, below, texts)
			check(e, b)
			b, e = witness.Guess(sealOf(one), n, below, nil)
			check(e, b)
			d, e := witness.New(below, n)
			check(e, d)
			for _, d := range []*witness.Drawing{d, new(witness.Drawing)} {
				for _, s := range texts {
					h, e := witness.Seal(api.Box{Person: n, Value: below, Salt: s})
					check(e, h)
					d.Seal(n, s)
					d.Seal(1, s)
					right, e := d.Open(api.Box{Person: n, Value: below, Salt: s})
					check(e, right)
					right, e = d.Open(api.Box{Person: 1, Value: n, Salt: s})
					check(e, right)
				}
				d.Close()
				d.Close()
				v, e := d.Value()
				check(e, v)
				l, e := d.Deviants()
				check(e, l)
				s, e := d.Text()
				check(e, s)
			}
		}
	}
}

// R2: with an error, nothing has changed.
func TestErrorsChangeNothing(t *testing.T) {
	wrong := func(d *witness.Drawing) {
		for _, hash := range append(noHashes(), sealOf(one)) {
			d.Seal(0, hash)
			d.Seal(3, hash)
		}
		for _, b := range append(invalidBoxes(), api.Box{Person: 3, Salt: "a"}, api.Box{Person: 1, Value: 12, Salt: "a"}) {
			if right, e := d.Open(b); right || e == api.OK {
				t.Error(b, right, e)
			}
		}
	}
	d, r := ok(witness.New(12, 2)), newRecord(12, 2)
	step := func(e, f api.Errno) {
		t.Helper()
		wrong(d)
		if e != api.OK || f != api.OK {
			t.Error(e, f)
		}
		same(t, d, r)
	}
	step(api.OK, api.OK)
	step(d.Seal(2, sealOf(two)), r.seal(2, sealOf(two)))
	d.Seal(2, sealOf(one))
	d.Open(two)
	d.Close()
	step(d.Seal(1, sealOf(one)), r.seal(1, sealOf(one)))
	d.Seal(1, sealOf(two))
	_, e := d.Open(two)
	_, f := r.open(two)
	step(e, f)
	d.Open(api.Box{Person: 2, Value: 1, Salt: "a"})
	_, e = d.Open(one)
	_, f = r.open(one)
	step(e, f)
	d.Open(api.Box{Person: 1, Value: 1, Salt: "a"})
	d.Close()
	step(api.OK, api.OK)
}

// R4: no argument is changed, and no result shares memory with one, or is kept.
func TestMemory(t *testing.T) {
	shares := make([]int, 2, 5)
	copy(shares, []int{4, 8})
	l := ok(witness.Split(3, 10, shares))
	if !slices.Equal(shares[:5], []int{4, 8, 0, 0, 0}) {
		t.Error("an argument was changed", shares[:5])
	}
	l[0], l[1] = -7, -7
	if !slices.Equal(shares, []int{4, 8}) {
		t.Error("shared memory", shares)
	}
	tried := []string{"elm", "oak"}
	if ok(witness.Guess(sealOf(one), 1, 12, tried)) != one || !slices.Equal(tried, []string{"elm", "oak"}) {
		t.Error(tried)
	}
	d := sealed(10, boxes(1, 2, 3)...)
	ok(0, d.Close())
	want := ok(d.Deviants())
	for range 2 {
		got := ok(d.Deviants())
		if !slices.Equal(got, want) {
			t.Error("kept memory", got)
		}
		clear(got[:cap(got)])
	}
	r, _, _ := witness.Audit(ok(d.Text()))
	clear(r.Deviants)
	if r, _, _ := witness.Audit(ok(d.Text())); !slices.Equal(r.Deviants, want) {
		t.Error("kept memory", r)
	}
}

// R3: nil lists and empty ones are the same.
func TestNilAndEmpty(t *testing.T) {
	for _, l := range [][]int{nil, {}} {
		if shares, e := witness.Split(3, 10, l); !slices.Equal(shares, []int{3}) || e != api.OK {
			t.Error(shares, e)
		}
		if v, e := witness.Combine(10, l); v != 0 || e != api.OK {
			t.Error(v, e)
		}
	}
	for _, l := range [][]string{nil, {}} {
		if b, e := witness.Guess(sealOf(one), 1, 12, l); !zero(b) || e != api.ErrNone {
			t.Error(b, e)
		}
	}
}

// The results of a drawing depend on nothing but its own calls.
func TestTwoDrawings(t *testing.T) {
	a, b := ok(witness.New(12, 2)), ok(witness.New(5, 1))
	ok(0, a.Seal(1, sealOf(one)))
	ok(0, b.Seal(1, sealOf(api.Box{Person: 1, Value: 3, Salt: "elm"})))
	ok(0, a.Seal(2, sealOf(two)))
	ok(b.Open(api.Box{Person: 1, Value: 3, Salt: "elm"}))
	ok(a.Open(one))
	ok(a.Open(two))
	if v, w := ok(a.Value()), ok(b.Value()); v != 4 || w != 3 {
		t.Error(v, w)
	}
}

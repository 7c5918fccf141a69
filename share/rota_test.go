package share_test

import (
	"slices"
	"testing"

	"astragal/api"
	"astragal/share"
)

// rota returns a rota with these past drawings.
func rota(persons, seats int, past ...[]int) api.Rota {
	return api.Rota{Persons: persons, Seats: seats, Past: past}
}

// badRotas are rotas that are not valid.
func badRotas() []api.Rota {
	l := []api.Rota{
		{}, rota(0, 0), rota(0, 1), rota(-1, 1), rota(1, 0), rota(1, -1), rota(1, 2), rota(21, 1), rota(5, 6), rota(20, 7), rota(20, 20), rota(7, 7),
		rota(3, 2, nil), rota(3, 2, []int{}), rota(3, 2, []int{0}), rota(3, 2, []int{0, 1, 2}), rota(3, 2, []int{0, 3}), rota(3, 2, []int{-1, 0}), rota(3, 2, []int{1, 0}), rota(3, 2, []int{1, 1}),
		rota(3, 2, []int{0, 1}, []int{2}), rota(3, 2, []int{0, 1}, []int{2, 3}), rota(1, 1, slices.Repeat([][]int{{0}}, 61)...), rota(1, 1, []int{1}), rota(0, 0, nil), rota(6, 6, []int{0, 1, 2, 3, 5, 4}),
	}
	for _, n := range extremes() {
		l = append(l, rota(n, 1), rota(3, n), rota(n, n), rota(3, 1, []int{n}), rota(20, 2, []int{0, 1}, []int{0, n}))
	}
	return l
}

// timesOf returns how often a person is in drawings.
func timesOf(past [][]int, person int) int {
	n := 0
	for _, drawing := range past {
		if slices.Contains(drawing, person) {
			n++
		}
	}
	return n
}

// fair reports whether a drawing is allowed after others, in the document's words.
func fair(persons int, past [][]int, drawing []int) bool {
	for drawn := range persons {
		for other := range persons {
			if slices.Contains(drawing, drawn) && !slices.Contains(drawing, other) && timesOf(past, drawn) > timesOf(past, other) {
				return false
			}
		}
	}
	return true
}

// allowed returns all drawings that are allowed next, in ascending order, in the document's words.
func allowed(r api.Rota) [][]int {
	return slices.DeleteFunc(drawings(r.Persons, r.Seats), func(l []int) bool { return !fair(r.Persons, r.Past, l) })
}

// noiseRota returns a valid rota that follows no rule; if it is kept, all its past drawings were allowed.
func noiseRota(next func(int) int, most int, kept bool) api.Rota {
	r := api.Rota{Persons: 1 + next(most-1)}
	r.Seats = 1 + next(min(r.Persons, 6)-1)
	for range next(9) {
		l := drawings(r.Persons, r.Seats)
		if kept {
			l = allowed(r)
		}
		r.Past = append(r.Past, l[next(len(l)-1)])
	}
	return r
}

// P10.6: the chapter's example 5, and others.
func TestDue(t *testing.T) {
	for i, c := range []struct {
		r         api.Rota
		must, may []int
		many      int
		drawings  [][]int
	}{
		{rota(5, 2, []int{0, 1}, []int{2, 3}), []int{4}, []int{0, 1, 2, 3}, 4, [][]int{{0, 4}, {1, 4}, {2, 4}, {3, 4}}},
		{rota(3, 2), nil, []int{0, 1, 2}, 3, [][]int{{0, 1}, {0, 2}, {1, 2}}},
		{rota(4, 2, []int{1, 2}), []int{0, 3}, nil, 1, [][]int{{0, 3}}},
		{rota(5, 3, []int{0, 2, 3}), []int{1, 4}, []int{0, 2, 3}, 3, [][]int{{0, 1, 4}, {1, 2, 4}, {1, 3, 4}}},
		{rota(1, 1), []int{0}, nil, 1, [][]int{{0}}},
		{rota(6, 6, slices.Repeat([][]int{numbers(0, 6)}, 60)...), numbers(0, 6), nil, 1, [][]int{numbers(0, 6)}},
		// Drawings that were not allowed: those who have served least must, and then those who have served next to least.
		{rota(4, 2, []int{0, 1}, []int{0, 1}, []int{0, 2}), []int{2, 3}, nil, 1, [][]int{{2, 3}}},
		{rota(5, 3, []int{0, 1, 2}, []int{0, 1, 2}, []int{0, 1, 4}), []int{2, 3, 4}, nil, 1, [][]int{{2, 3, 4}}},
	} {
		must, may, many, e := share.Due(c.r)
		if !slices.Equal(must, c.must) || !slices.Equal(may, c.may) || many != c.many || e != api.OK {
			t.Error(i, must, may, many, e)
		}
		for k, want := range c.drawings {
			if l, e := share.Serve(c.r, k); !slices.Equal(l, want) || e != api.OK {
				t.Error(i, k, l, e)
			}
		}
		for _, n := range append(extremes(), len(c.drawings)) {
			if l, e := share.Serve(c.r, n); len(l) != 0 || e != api.ErrNone {
				t.Error(i, n, l, e)
			}
		}
	}
}

// P10.6: who is in all drawings that are allowed, and who in some, and the drawings in their order, as in the document's words.
func TestRotas(t *testing.T) {
	next, forced, free := noise(8), 0, 0
	for k := range 1500 {
		r := noiseRota(next, 8, k%2 == 0)
		all := allowed(r)
		var inAll, inSome []int
		for person := range r.Persons {
			if n := timesOf(all, person); n == len(all) {
				inAll = append(inAll, person)
			} else if n > 0 {
				inSome = append(inSome, person)
			}
		}
		must, may, many, e := share.Due(r)
		if !slices.Equal(must, inAll) || !slices.Equal(may, inSome) || many != len(all) || e != api.OK {
			t.Fatal(r, must, may, many, e)
		}
		for number, want := range all {
			if l, e := share.Serve(r, number); !slices.Equal(l, want) || e != api.OK {
				t.Fatal(r, number, l, e, want)
			}
		}
		for _, n := range []int{-1, len(all)} {
			if l, e := share.Serve(r, n); len(l) != 0 || e != api.ErrNone {
				t.Fatal(r, n, l, e)
			}
		}
		if len(may) == 0 {
			forced++
		} else if len(must) > 0 {
			free++
		}
	}
	if forced < 100 || free < 100 {
		t.Error("the rotas are too much alike", forced, free)
	}
}

// P10.6: the greatest rota.
func TestGreatRota(t *testing.T) {
	r := rota(20, 6)
	if must, may, many, e := share.Due(r); len(must) != 0 || !slices.Equal(may, numbers(0, 20)) || many != 38760 || e != api.OK {
		t.Error(must, may, many, e)
	}
	for n, want := range map[int][]int{0: numbers(0, 6), 1: {0, 1, 2, 3, 4, 6}, 38759: numbers(14, 6)} {
		if l, e := share.Serve(r, n); !slices.Equal(l, want) || e != api.OK {
			t.Error(n, l, e)
		}
	}
	if l, e := share.Serve(r, 38760); len(l) != 0 || e != api.ErrNone {
		t.Error(l, e)
	}
}

// P10.7: the chapter's example 5, and others.
func TestFair(t *testing.T) {
	late := append(slices.Repeat([][]int{{0}, {1}}, 29), []int{0}, []int{0})
	for i, c := range []struct {
		r    api.Rota
		want int
	}{
		{rota(5, 2, []int{0, 1}, []int{2, 3}, []int{0, 4}), -1},
		{rota(5, 2, []int{0, 1}, []int{2, 3}, []int{0, 4}, []int{0, 1}), 3},
		{rota(5, 2, []int{0, 1}, []int{2, 3}, []int{0, 4}, []int{1, 2}), -1},
		{rota(5, 2, []int{0, 1}, []int{1, 2}, []int{1, 2}), 1},
		{rota(5, 2), -1}, {rota(1, 1), -1}, {rota(1, 1, slices.Repeat([][]int{{0}}, 60)...), -1},
		{rota(6, 6, slices.Repeat([][]int{numbers(0, 6)}, 60)...), -1},
		{rota(2, 1, []int{1}, []int{1}), 1}, {rota(2, 1, late...), 59}, {rota(2, 1, late[:59]...), -1},
	} {
		if n, e := share.Fair(c.r); n != c.want || e != api.OK {
			t.Error(i, n, e)
		}
	}
	next, seen := noise(9), map[int]int{}
	for k := range 3000 {
		r := noiseRota(next, 7, k%3 == 0)
		if more := next(3); k%3 == 0 && more > 0 {
			for range more {
				l := drawings(r.Persons, r.Seats)
				r.Past = append(r.Past, l[next(len(l)-1)])
			}
		}
		want := -1
		for at := range r.Past {
			if want < 0 && !fair(r.Persons, r.Past[:at], r.Past[at]) {
				want = at
			}
		}
		if n, e := share.Fair(r); n != want || e != api.OK {
			t.Fatal(r, n, e, want)
		}
		seen[want]++
	}
	for n := -1; n <= 4; n++ {
		if n != 0 && seen[n] < 50 {
			t.Error("the rotas are too much alike", seen)
		}
	}
	if seen[0] > 0 {
		t.Error("the first drawing is always allowed", seen)
	}
}

// P10.6, P10.7: the error of a rota that is not valid, whatever the number.
func TestBadRotas(t *testing.T) {
	for i, r := range badRotas() {
		must, may, many, e := share.Due(r)
		n, f := share.Fair(r)
		if !zero(must, may, many, n) || e != api.ErrArg || f != api.ErrArg {
			t.Error(i, r, must, may, many, e, n, f)
		}
		for _, number := range append(extremes(), 0) {
			if l, e := share.Serve(r, number); len(l) != 0 || e != api.ErrArg {
				t.Error(i, r, number, l, e)
			}
		}
	}
}

// P10.11: a rota that is served only as allowed is fair, nobody serves twice more often than somebody else, and those who must serve have served least.
func TestEverybodyServesOnce(t *testing.T) {
	next := noise(10)
	for range 200 {
		persons := 1 + next(19)
		r := rota(persons, 1+next(min(6, persons)-1))
		for range 60 {
			must, may, many, e := share.Due(r)
			if e != api.OK {
				t.Fatal(r, e)
			}
			least := persons * 60
			for person := range persons {
				least = min(least, timesOf(r.Past, person))
			}
			for _, person := range must {
				if timesOf(r.Past, person) > least {
					t.Fatal(r, must, may)
				}
			}
			l := ok(share.Serve(r, next(many-1)))
			for _, person := range l {
				if !slices.Contains(must, person) && !slices.Contains(may, person) {
					t.Fatal(r, must, may, l)
				}
			}
			for _, person := range must {
				if !slices.Contains(l, person) {
					t.Fatal(r, must, may, l)
				}
			}
			r.Past = append(r.Past, l)
			times := make([]int, persons)
			for person := range times {
				times[person] = timesOf(r.Past, person)
			}
			if slices.Max(times)-slices.Min(times) > 1 || ok(share.Fair(r)) != -1 {
				t.Fatal(r, times)
			}
		}
	}
}

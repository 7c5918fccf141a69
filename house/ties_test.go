package house_test

import (
	"slices"
	"testing"

	"astragal/api"
	"astragal/house"
)

// P5.4: against all pairs of houses, for houses of few kinds of figures and of many.
func TestTies(t *testing.T) {
	next, found := noise(54), map[api.TieKind]int{}
	for n := range 400 {
		h := noiseHouses(next, 1+n%12)
		for a, b := range two {
			want := tiesOf(h, a, b)
			if l := ok(house.Ties(h, a, b)); !slices.Equal(l, want) {
				t.Fatal(h, a, b, l, want)
			}
			for _, tie := range want {
				found[tie.Kind]++
			}
		}
	}
	for kind := api.Occupation; kind <= api.Translation; kind++ {
		if found[kind] < 100 {
			t.Error(kind, found)
		}
	}
}

// P5.4: what is a tie of a kind, and what just is none.
func TestTiesOfAKind(t *testing.T) {
	for _, c := range []struct {
		h    api.Houses
		a, b int
		want []api.Tie
	}{
		{unlike(), 1, 2, nil},
		{unlike(), 1, 7, nil},
		{with(7, 0), 1, 7, []api.Tie{{Kind: api.Occupation, From: 1, To: 7}}},
		{with(7, 0), 7, 1, []api.Tie{{Kind: api.Occupation, From: 7, To: 1}}},
		{with(6, 0), 1, 7, []api.Tie{{Kind: api.Conjunction, From: 6, To: 7}}},
		{with(12, 6), 1, 7, []api.Tie{{Kind: api.Conjunction, From: 1, To: 12}}},
		// The house that asks is next to the other one: it is not its own figure elsewhere.
		{with(3, 0), 1, 2, []api.Tie{{Kind: api.Conjunction, From: 3, To: 2}}},
		// The same figure in both: each of the places next to one of them is one of the other one's figure.
		{with(2, 0, 3, 0), 1, 2, []api.Tie{{Kind: api.Occupation, From: 1, To: 2}, {Kind: api.Conjunction, From: 3, To: 2}}},
		{with(2, 0, 12, 0), 1, 2, []api.Tie{{Kind: api.Occupation, From: 1, To: 2}, {Kind: api.Conjunction, From: 1, To: 12}}},
		{with(3, 0, 2, 0), 1, 3, []api.Tie{{Kind: api.Occupation, From: 1, To: 3}, {Kind: api.Conjunction, From: 1, To: 2}, {Kind: api.Conjunction, From: 2, To: 3}}},
		// From comes before To in the order: 1 to 12 before 3 to 2.
		{with(12, 1, 3, 0), 1, 2, []api.Tie{{Kind: api.Conjunction, From: 1, To: 12}, {Kind: api.Conjunction, From: 3, To: 2}}},
		{with(12, 0, 11, 6), 1, 7, []api.Tie{{Kind: api.Mutation, From: 12, To: 11}}},
		{with(5, 0, 4, 6), 1, 7, []api.Tie{{Kind: api.Mutation, From: 5, To: 4}}},
		// Two apart are not next to each other.
		{with(3, 0, 5, 6), 1, 7, nil},
		// The same figure in both, and twice elsewhere: a tie both ways.
		{with(7, 0, 4, 0, 3, 0), 1, 7, []api.Tie{{Kind: api.Occupation, From: 1, To: 7}, {Kind: api.Mutation, From: 3, To: 4}, {Kind: api.Mutation, From: 4, To: 3}}},
		{with(12, 15, 8, 15), 1, 7, []api.Tie{{Kind: api.Translation, From: 12, To: 8}}},
		{with(2, 15, 12, 15, 6, 15, 8, 15), 1, 7, []api.Tie{{Kind: api.Translation, From: 2, To: 6}, {Kind: api.Translation, From: 2, To: 8}, {Kind: api.Translation, From: 12, To: 6}, {Kind: api.Translation, From: 12, To: 8}}},
		// One house between both is no other one for each.
		{with(2, 15), 1, 3, nil},
		{with(12, 15, 4, 15), 1, 3, []api.Tie{{Kind: api.Translation, From: 12, To: 4}}},
		{with(12, 15, 3, 15), 1, 2, []api.Tie{{Kind: api.Translation, From: 12, To: 3}}},
		// Between both, and on the other side of one of them.
		{with(2, 15, 4, 15), 1, 3, []api.Tie{{Kind: api.Translation, From: 2, To: 4}}},
	} {
		if l := ok(house.Ties(c.h, c.a, c.b)); !slices.Equal(l, c.want) {
			t.Error(c, l)
		}
	}
}

// P5.5: against all houses.
func TestAspects(t *testing.T) {
	next, found := noise(55), map[api.AspectKind]int{}
	for n := range 400 {
		h := noiseHouses(next, 1+n%12)
		for a, b := range two {
			want := aspectsOf(h, a, b)
			if l := ok(house.Aspects(h, a, b)); !slices.Equal(l, want) {
				t.Fatal(h, a, b, l, want)
			}
			for _, s := range want {
				found[s.Kind]++
			}
		}
	}
	if len(found) != 4 {
		t.Error(found)
	}
}

// P5.5: a house alone looks at those that are 2, 3, 4 or 6 apart.
func TestAspectsOfOneHouse(t *testing.T) {
	kinds := map[int]api.AspectKind{3: api.Sextile, 4: api.Square, 5: api.Trine, 7: api.Opposition, 9: api.Trine, 10: api.Square, 11: api.Sextile}
	for b := 2; b <= 12; b++ {
		var want []api.Aspect
		if kind, there := kinds[b]; there {
			want = []api.Aspect{{Kind: kind, From: 1, To: b}}
		}
		if l := ok(house.Aspects(unlike(), 1, b)); !slices.Equal(l, want) {
			t.Error(b, l)
		}
	}
}

// P5.10: the other way round, ties have their houses exchanged.
func TestBothWays(t *testing.T) {
	next := noise(510)
	for n := range 300 {
		h := noiseHouses(next, 1+n%12)
		for a, b := range two {
			back := ok(house.Ties(h, b, a))
			for i, tie := range back {
				back[i].From, back[i].To = tie.To, tie.From
			}
			l := ok(house.Ties(h, a, b))
			if len(l) != len(back) {
				t.Fatal(h, a, b, l, back)
			}
			for _, tie := range l {
				if !slices.Contains(back, tie) {
					t.Fatal(h, a, b, l, back)
				}
			}
			v, w := ok(house.Judge(h, a, b)), ok(house.Judge(h, b, a))
			if v != w && (v <= api.Helped || w <= api.Helped) {
				t.Fatal(h, a, b, v, w)
			}
		}
	}
}

// P5.11: ties and aspects move on with the figures, and the verdict stays.
func TestTurned(t *testing.T) {
	next := noise(511)
	for n := range 60 {
		h := noiseHouses(next, 1+n%12)
		for a, b := range two {
			by := 1 + next(10)
			on, c, d := turned(h, by), moved(a, by), moved(b, by)
			ties, aspects := ok(house.Ties(h, a, b)), ok(house.Aspects(h, a, b))
			movedTies, movedAspects := ok(house.Ties(on, c, d)), ok(house.Aspects(on, c, d))
			if len(ties) != len(movedTies) || len(aspects) != len(movedAspects) {
				t.Fatal(h, a, b, by, ties, movedTies, aspects, movedAspects)
			}
			for _, tie := range ties {
				if !slices.Contains(movedTies, api.Tie{Kind: tie.Kind, From: moved(tie.From, by), To: moved(tie.To, by)}) {
					t.Fatal(h, a, b, by, ties, movedTies)
				}
			}
			for _, s := range aspects {
				if !slices.Contains(movedAspects, api.Aspect{Kind: s.Kind, From: moved(s.From, by), To: d}) {
					t.Fatal(h, a, b, by, aspects, movedAspects)
				}
			}
			if ok(house.Judge(h, a, b)) != ok(house.Judge(on, c, d)) {
				t.Fatal(h, a, b, by)
			}
		}
	}
}

// The second example of the chapter.
func TestExampleOfTies(t *testing.T) {
	if l := ok(house.Ties(four(), 1, 10)); !slices.Equal(l, []api.Tie{{Kind: api.Conjunction, From: 1, To: 2}}) {
		t.Error(l)
	}
	if l := ok(house.Aspects(four(), 10, 4)); !slices.Equal(l, []api.Aspect{{Kind: api.Sextile, From: 2, To: 4}, {Kind: api.Opposition, From: 10, To: 4}}) {
		t.Error(l)
	}
}

// with returns houses all of whose figures are different, but for some houses, each named before its figure.
func with(others ...int) api.Houses {
	h := unlike()
	for i := 0; i < len(others); i += 2 {
		h[others[i]-1] = api.Figure(others[i+1])
	}
	return h
}

package house_test

import (
	"testing"

	"astragal/api"
	"astragal/house"
	"astragal/shield"
)

// P5.6, P5.13: all pairs of figures, in each pair of houses; partners are each other's, and go together in the same way.
func TestPartner(t *testing.T) {
	for a := 1; a <= 12; a += 2 {
		for f := range api.Figure(16) {
			for g := range api.Figure(16) {
				h := four()
				h[a-1], h[a] = f, g
				p, how, e := house.Partner(h, a)
				q, back, d := house.Partner(h, a+1)
				if p != a+1 || q != a || how != together(f, g) || back != how || e != api.OK || d != api.OK {
					t.Fatal(a, f, g, p, how, e, q, back, d)
				}
			}
		}
	}
}

// together returns how two figures go together, each way on its own.
func together(f, g api.Figure) api.Company {
	how := api.Company(0)
	if f == g {
		how += 1
	}
	if f != g && rulerOf(f) == rulerOf(g) {
		how += 2
	}
	opposite := true
	for line, marks := range marksOf(f) {
		opposite = opposite && marks+marksOf(g)[line] == 3
	}
	if opposite {
		how += 4
	}
	if f != g && marksOf(f)[0] == marksOf(g)[0] {
		how += 8
	}
	return how
}

// P5.6: each way alone, and the sums of ways that there are.
func TestCompany(t *testing.T) {
	for _, c := range []struct {
		f, g api.Figure
		how  api.Company
	}{
		{api.Populus, api.Populus, api.Simple},
		{api.Puer, api.Rubeus, api.DemiSimple},
		{api.Laetitia, api.CaputDraconis, api.Compound},
		{api.Laetitia, api.Puer, api.Capitular},
		{api.Populus, api.Via, api.DemiSimple | api.Compound},
		{api.Amissio, api.Puella, api.DemiSimple | api.Capitular},
		{api.Populus, api.Puer, 0},
	} {
		if _, how, e := house.Partner(api.Houses{9: c.f, 8: c.g}, 9); how != c.how || e != api.OK {
			t.Error(c, how, e)
		}
	}
}

// P5.7: all marks, and 12 taken away again and again.
func TestFortune(t *testing.T) {
	next, seen := noise(57), map[int]bool{}
	for n := range 2000 {
		h := noiseHouses(next, 1+n%12)
		want := 0
		for _, f := range h {
			for _, marks := range marksOf(f) {
				want += marks
			}
		}
		left := want
		for left > 12 {
			left -= 12
		}
		marks, at, e := house.Fortune(h)
		if marks != want || at != left || e != api.OK {
			t.Fatal(h, marks, at, e)
		}
		seen[at] = true
	}
	if len(seen) != 12 {
		t.Error(seen)
	}
	via := api.Houses{15, 15, 15, 15, 15, 15, 15, 15, 15, 15, 15, 15}
	for h, want := range map[api.Houses]int{{}: 96, via: 48} {
		if marks, at, e := house.Fortune(h); marks != want || at != 12 || e != api.OK {
			t.Error(h, marks, at, e)
		}
	}
	for i := range 12 {
		for _, f := range noFigures() {
			h := four()
			h[i] = f
			if marks, at, e := house.Fortune(h); marks != 0 || at != 0 || e != api.ErrArg {
				t.Error(h, marks, at, e)
			}
		}
	}
}

// P5.8: against the ties and aspects that there are.
func TestJudge(t *testing.T) {
	next, found := noise(58), map[api.Verdict]int{}
	for n := range 400 {
		h := noiseHouses(next, 1+n%12)
		for a, b := range two {
			want := judged(h, a, b)
			if v := ok(house.Judge(h, a, b)); v != want {
				t.Fatal(h, a, b, v, want)
			}
			found[want]++
		}
	}
	if len(found) != 4 || found[api.Hardly] < 100 {
		t.Error(found)
	}
}

// P5.8: each reason for a verdict, and what stands against a sextile or a trine.
func TestReasons(t *testing.T) {
	for _, c := range []struct {
		h    api.Houses
		a, b int
		want api.Verdict
	}{
		{with(7, 0), 1, 7, api.Granted},
		{with(6, 0), 1, 7, api.Granted},
		{with(12, 0, 11, 6), 1, 7, api.Helped},
		{with(12, 15, 8, 15), 1, 7, api.Helped},
		{unlike(), 1, 3, api.Hardly},
		{unlike(), 1, 5, api.Hardly},
		{unlike(), 1, 4, api.Denied},
		{unlike(), 1, 7, api.Denied},
		{unlike(), 1, 2, api.Denied},
		{unlike(), 1, 6, api.Denied},
		// Besides the trine of 1 to 5, a square of 8, or an opposition of 11.
		{with(8, 0), 1, 5, api.Denied},
		{with(11, 0), 1, 5, api.Denied},
		// Besides it a sextile of 7 and a trine of 9.
		{with(7, 0, 9, 0), 1, 5, api.Hardly},
		// 3 looks at 1 too, 4 does not: only the aspects of the one who asks count.
		{with(8, 2), 3, 1, api.Hardly},
		{with(8, 2), 1, 3, api.Hardly},
		{with(7, 2), 3, 1, api.Denied},
		{with(7, 2), 1, 3, api.Hardly},
	} {
		if v := ok(house.Judge(c.h, c.a, c.b)); v != c.want {
			t.Error(c, v)
		}
	}
}

// P5.9: against all 49 houses.
func TestLeast(t *testing.T) {
	next, found := noise(59), map[[2]api.Verdict]bool{}
	for n := range 24 {
		h := noiseHouses(next, 1+n%12)
		for a, b := range two {
			wantBest, wantWorst := judged(h, a, b), judged(h, a, b)
			for i := range h {
				for _, worth := range []api.Figure{1, 2, 4, 8} {
					changed := h
					changed[i] = changed[i] + worth
					if h[i]/worth%2 == 1 {
						changed[i] = h[i] - worth
					}
					v := judged(changed, a, b)
					wantBest, wantWorst = min(wantBest, v), max(wantWorst, v)
				}
			}
			best, worst, e := house.Least(h, a, b)
			if best != wantBest || worst != wantWorst || e != api.OK {
				t.Fatal(h, a, b, best, worst, e, wantBest, wantWorst)
			}
			found[[2]api.Verdict{best, worst}] = true
		}
	}
	if len(found) < 4 {
		t.Error(found)
	}
}

// P5.9: no single mark changes the verdict, or it can only be worse, or both ways.
func TestLeastOfFew(t *testing.T) {
	if best, worst, e := house.Least(api.Houses{}, 1, 5); best != api.Granted || worst != api.Granted || e != api.OK {
		t.Error(best, worst, e)
	}
	h := with(12, 0, 11, 6)
	best, worst, e := house.Least(h, 1, 7)
	if v := ok(house.Judge(h, 1, 7)); v != api.Helped || best != api.Helped || worst != api.Denied || e != api.OK {
		t.Error(v, best, worst, e)
	}
	best, worst, e = house.Least(unlike(), 1, 5)
	if v := ok(house.Judge(unlike(), 1, 5)); v != api.Hardly || best != api.Granted || worst != api.Denied || e != api.OK {
		t.Error(v, best, worst, e)
	}
	if h != with(12, 0, 11, 6) {
		t.Error(h)
	}
}

// P5.12: in all charts the fortune is in an even house.
func TestFortuneOfCharts(t *testing.T) {
	for number := range api.Charts {
		h := ok(house.Of(ok(shield.Derive(ok(shield.Mothers(number))))))
		if marks, at, e := house.Fortune(h); marks%2 != 0 || at%2 != 0 || at < 2 || at > 12 || e != api.OK {
			t.Fatal(h, marks, at, e)
		}
	}
}

// The third example of the chapter.
func TestExampleOfVerdicts(t *testing.T) {
	if ok(house.Judge(four(), 1, 10)) != api.Granted || ok(house.Judge(four(), 1, 8)) != api.Granted {
		t.Error("granted")
	}
	if l := ok(house.Ties(four(), 1, 8)); len(l) != 1 || l[0] != (api.Tie{Kind: api.Conjunction, From: 1, To: 12}) {
		t.Error(l)
	}
	if l := ok(house.Ties(four(), 3, 6)); len(l) != 0 {
		t.Error(l)
	}
	if l := ok(house.Aspects(four(), 3, 6)); len(l) != 1 || l[0] != (api.Aspect{Kind: api.Square, From: 3, To: 6}) {
		t.Error(l)
	}
	if ok(house.Judge(four(), 3, 6)) != api.Denied {
		t.Error("denied")
	}
}

// The fourth and the fifth example of the chapter.
func TestExampleOfCompanyAndFortune(t *testing.T) {
	for a, b := range map[int]int{7: 8, 8: 7} {
		if p, how, e := house.Partner(four(), a); p != b || how != api.Capitular || e != api.OK {
			t.Error(a, p, how, e)
		}
	}
	if marks, at, e := house.Fortune(four()); marks != 74 || at != 2 || e != api.OK {
		t.Error(marks, at, e)
	}
}

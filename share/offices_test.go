package share_test

import (
	"slices"
	"testing"

	"astragal/api"
	"astragal/share"
)

// goodDraws are valid drawings at the limits of the document.
func goodDraws() []api.ShareDraw {
	one := []api.ShareOffice{{Seats: 1, Can: 1}}
	return []api.ShareDraw{
		three(), three(group(1, 0, 1)), three(group(1, 0), group(1, 1), group(1, 2)), three(group(0), group(15), group(3), group(0, 0, 1, 2)), great(),
		{Limits: []int{0}, Offices: one}, {Limits: []int{5}, Offices: one}, {Limits: []int{1}, Offices: []api.ShareOffice{{Seats: 3}}},
		{Limits: filled(8, 0), Offices: one}, {Limits: filled(8, 5), Offices: slices.Repeat(one, 5), Groups: []api.ShareGroup{{Members: 255, Most: 15}}},
		{Limits: filled(8, 1), Offices: []api.ShareOffice{{Seats: 3, Can: 128}}, Groups: []api.ShareGroup{{Members: 1}, {Members: 128}, {Members: 64}, {Members: 32 + 8}}},
	}
}

// badDraws are drawings that are not valid.
func badDraws() []api.ShareDraw {
	limits, one := []int{1, 1, 1}, []api.ShareOffice{{Seats: 1, Can: 7}}
	l := []api.ShareDraw{
		{}, {Limits: limits}, {Offices: one}, {Offices: []api.ShareOffice{{Seats: 1}}}, {Limits: filled(9, 1), Offices: one}, {Limits: filled(70, 1), Offices: one}, {Limits: filled(3, 6), Offices: one}, {Limits: []int{1, 1, 6}, Offices: one}, {Limits: []int{1, -1, 1}, Offices: one},
		{Limits: limits, Offices: []api.ShareOffice{}}, {Limits: limits, Offices: slices.Repeat(one, 6)}, {Limits: limits, Offices: slices.Repeat(one, 70)},
		{Limits: limits, Offices: []api.ShareOffice{{Can: 7}}}, {Limits: limits, Offices: []api.ShareOffice{{Seats: 4, Can: 7}}}, {Limits: limits, Offices: []api.ShareOffice{{Seats: 1, Can: 8}}}, {Limits: limits, Offices: []api.ShareOffice{{Seats: 1, Can: -1}}},
		{Limits: limits, Offices: append(slices.Clone(one), api.ShareOffice{Seats: 1, Can: 9})}, {Limits: limits, Offices: append(slices.Clone(one), api.ShareOffice{Seats: 0, Can: 1})},
		three(group(1), group(1), group(1), group(1), group(1)), three(group(1, 3)), three(group(1, 0, 1), group(1, 1, 2)), three(group(1, 2), group(1), group(1, 2)), three(group(16, 0)), three(group(-1, 0)), three(group(1, 0), group(16)),
		three(api.ShareGroup{Members: -1}), three(api.ShareGroup{Members: 1, Most: 1}, api.ShareGroup{Members: -2, Most: 1}),
	}
	for _, n := range extremes() {
		l = append(l, api.ShareDraw{Limits: []int{n}, Offices: []api.ShareOffice{{Seats: 1, Can: 1}}}, api.ShareDraw{Limits: limits, Offices: []api.ShareOffice{{Seats: n, Can: 7}}},
			api.ShareDraw{Limits: limits, Offices: []api.ShareOffice{{Seats: 1, Can: n}}}, three(api.ShareGroup{Members: n}), three(api.ShareGroup{Members: 1, Most: n}))
	}
	return l
}

// P10.1: drawings at the limits of the document are valid; all functions have the error of one that is not, whatever else is wrong.
func TestCheck(t *testing.T) {
	for i, d := range goodDraws() {
		if e := share.Check(d); e != api.OK {
			t.Error(i, d, e)
		}
	}
	for i, d := range badDraws() {
		e := share.Check(d)
		rule, at, f := share.Obeys(d, [][]int{{-1}})
		n, g := share.Count(d)
		if e != api.ErrArg || f != api.ErrArg || g != api.ErrArg || !zero(rule, at, n) {
			t.Error(i, d, e, rule, at, f, n, g)
		}
		a, e := share.Nth(d, -1)
		n, f = share.Rank(d, nil)
		s, g := share.Short(d, -1)
		if e != api.ErrArg || f != api.ErrArg || g != api.ErrArg || !zero(a, n, s) {
			t.Error(i, d, a, e, n, f, s, g)
		}
		if set, n, e := share.Block(d); e != api.ErrArg || !zero(set, n) {
			t.Error(i, d, set, n, e)
		}
	}
}

// P10.1: the first rule that is broken, and where first.
func TestObeys(t *testing.T) {
	d := api.ShareDraw{
		Limits:  []int{2, 1, 3, 0},
		Offices: []api.ShareOffice{office(1, 0, 1, 2), office(2, 0, 2, 3), office(2, 0, 1, 2)},
		Groups:  []api.ShareGroup{group(3, 0), group(3, 1, 2), group(1, 3)},
	}
	for i, c := range []struct {
		a    [][]int
		rule api.ShareRule
		at   int
	}{
		{[][]int{{0}, {0, 2}, {1, 2}}, 0, 0},
		{[][]int{{2}, {0, 2}, {0, 1}}, 0, 0},
		{[][]int{nil, nil, nil}, api.ShareSeats, 0},
		{[][]int{{0, 1}, {0, 2}, {1, 2}}, api.ShareSeats, 0},
		{[][]int{{0}, {2, 0}, {1, 2}}, api.ShareSeats, 1},
		{[][]int{{0}, {0, 2}, {2, 2}}, api.ShareSeats, 2},
		{[][]int{{0}, {0, 2}, {0, 1, 2}}, api.ShareSeats, 2},
		{[][]int{{3}, {0, 2}, {1, 1}}, api.ShareSeats, 2},
		{[][]int{{3}, {0, 1}, {2, 3}}, api.ShareCan, 0},
		{[][]int{{0}, {1, 2}, {1, 2}}, api.ShareCan, 1},
		{[][]int{{1}, {2, 3}, {1, 3}}, api.ShareCan, 2},
		{[][]int{{0}, {0, 3}, {0, 2}}, api.ShareLimit, 0},
		{[][]int{{1}, {0, 3}, {1, 2}}, api.ShareLimit, 1},
		{[][]int{{1}, {2, 3}, {0, 2}}, api.ShareLimit, 3},
		{[][]int{{2}, {0, 2}, {1, 2}}, api.ShareQuota, 1},
	} {
		if rule, at, e := share.Obeys(d, c.a); rule != c.rule || at != c.at || e != api.OK {
			t.Error(i, rule, at, e)
		}
	}
	later := three(group(2, 0), group(1, 1, 2))
	if rule, at, e := share.Obeys(later, [][]int{{1}, {2}}); rule != api.ShareQuota || at != 1 || e != api.OK {
		t.Error(rule, at, e)
	}
}

// P10.1: any lists of persons, as in the document's words.
func TestAllLists(t *testing.T) {
	next, seen := noise(1), map[api.ShareRule]int{}
	for range 40000 {
		d := noiseDraw(next, size{1, 5, 3, 3, 3})
		var a [][]int
		for _, o := range d.Offices {
			var l []int
			for range min(max(0, o.Seats+next(9)-8), 8) {
				l = append(l, next(len(d.Limits)-1))
			}
			for range o.Seats * min(1, next(6)) {
				l = append(l, next(len(d.Limits)-1))
			}
			if next(5) > 0 {
				slices.Sort(l)
				l = slices.Compact(l)
			}
			a = append(a, l[:min(len(l), 8)])
		}
		rule, at, e := share.Obeys(d, a)
		if want, where := obeys(d, a); rule != want || at != where || e != api.OK {
			t.Fatal(d, a, rule, at, e, want, where)
		}
		seen[rule]++
	}
	for rule := range api.ShareQuota + 1 {
		if seen[rule] < 100 {
			t.Error("too few", seen)
		}
	}
}

// P10.1, P10.2: what has not the form of an assignment, and what has it but breaks a rule.
func TestForm(t *testing.T) {
	for i, c := range []struct {
		a    [][]int
		e, f api.Errno
	}{
		{nil, api.ErrForm, api.ErrForm}, {[][]int{}, api.ErrForm, api.ErrForm}, {[][]int{{0}}, api.ErrForm, api.ErrForm}, {[][]int{{0}, {1}, {2}}, api.ErrForm, api.ErrForm}, {[][]int{{0}, {1}, nil}, api.ErrForm, api.ErrForm},
		{[][]int{{0}, {3}}, api.ErrForm, api.ErrForm}, {[][]int{{-1}, {0}}, api.ErrForm, api.ErrForm}, {[][]int{{0, 1, 2, 3}, {1}}, api.ErrForm, api.ErrForm}, {[][]int{{0}, filled(9, 0)}, api.ErrForm, api.ErrForm}, {[][]int{filled(5000, 0), {1}}, api.ErrForm, api.ErrForm},
		{[][]int{{0}, filled(8, 0)}, api.OK, api.ErrState}, {[][]int{nil, {}}, api.OK, api.ErrState}, {[][]int{{0}, {0}}, api.OK, api.ErrState}, {[][]int{{1}, {0}}, api.OK, api.ErrState}, {[][]int{{0}, {2}}, api.OK, api.OK},
	} {
		d := three(group(1, 0, 1))
		rule, at, e := share.Obeys(d, c.a)
		n, f := share.Rank(d, c.a)
		if e != c.e || f != c.f || e != api.OK && !zero(rule, at) || !zero(n) {
			t.Error(i, rule, at, e, n, f)
		}
	}
	for _, n := range extremes() {
		if rule, at, e := share.Obeys(three(), [][]int{{0}, {n}}); !zero(rule, at) || e != api.ErrForm {
			t.Error(n, rule, at, e)
		}
		if rank, e := share.Rank(three(), [][]int{{n}, {0}}); rank != 0 || e != api.ErrForm {
			t.Error(n, rank, e)
		}
	}
}

// P10.2: the chapter's examples 1 and 2.
func TestExamplesOfOffices(t *testing.T) {
	for i, c := range []struct {
		d    api.ShareDraw
		want [][][]int
	}{
		{three(), [][][]int{{{0}, {1}}, {{0}, {2}}, {{1}, {0}}, {{1}, {2}}, {{2}, {0}}, {{2}, {1}}}},
		{three(group(1, 0, 1)), [][][]int{{{0}, {2}}, {{1}, {2}}, {{2}, {0}}, {{2}, {1}}}},
	} {
		if n, e := share.Count(c.d); n != len(c.want) || e != api.OK {
			t.Error(i, n, e)
		}
		for k, want := range c.want {
			a, e := share.Nth(c.d, k)
			n, f := share.Rank(c.d, want)
			if !same(a, want) || e != api.OK || n != k || f != api.OK {
				t.Error(i, k, a, e, n, f)
			}
		}
		for _, n := range append(extremes(), len(c.want)) {
			if a, e := share.Nth(c.d, n); len(a) != 0 || e != api.ErrNone {
				t.Error(i, n, a, e)
			}
		}
	}
}

// P10.2, P10.8: all assignments of small drawings, in their order, as in the document's words.
func TestSmallDraws(t *testing.T) {
	next, none, many := noise(2), 0, 0
	for range 1500 {
		d := noiseDraw(next, few())
		all := assignments(d)
		if !slices.IsSortedFunc(all, before) {
			t.Fatal("not in ascending order", all)
		}
		if n, e := share.Count(d); n != len(all) || e != api.OK {
			t.Fatal(d, n, e, len(all))
		}
		for k, want := range all {
			a, e := share.Nth(d, k)
			n, f := share.Rank(d, want)
			if !same(a, want) || e != api.OK || n != k || f != api.OK {
				t.Fatal(d, k, a, e, n, f, want)
			}
		}
		for _, n := range []int{-1, len(all)} {
			if a, e := share.Nth(d, n); len(a) != 0 || e != api.ErrNone {
				t.Fatal(d, n, a, e)
			}
		}
		if none += 1 - min(1, len(all)); len(all) > 20 {
			many++
		}
	}
	if none < 100 || many < 50 {
		t.Error("the drawings are too much alike", none, many)
	}
}

// P10.2: the greatest drawings.
func TestGreatDraws(t *testing.T) {
	shared := great()
	shared.Limits = filled(8, 2)
	apart := great()
	apart.Limits, apart.Offices = filled(8, 1), apart.Offices[:2]
	short := great()
	short.Limits = filled(8, 1)
	grouped := great()
	grouped.Groups = []api.ShareGroup{group(15, 0, 1, 2, 3, 4, 5, 6, 7)}
	half := great()
	half.Groups = []api.ShareGroup{group(0, 0, 2, 4, 6), group(15, 1, 3, 5, 7)}
	for i, c := range []struct {
		d    api.ShareDraw
		want int
	}{{great(), 550731776}, {grouped, 550731776}, {apart, 560}, {short, 0}, {half, 1024}, {shared, counted(shared)}} {
		if n, e := share.Count(c.d); n != c.want || e != api.OK {
			t.Error(i, n, e)
		}
	}
	first, last := slices.Repeat([][]int{{0, 1, 2}}, 5), slices.Repeat([][]int{{5, 6, 7}}, 5)
	for n, want := range map[int][][]int{0: first, 550731775: last, 1: append(copied(first[:4]), []int{0, 1, 3})} {
		a, e := share.Nth(great(), n)
		k, f := share.Rank(great(), want)
		if !same(a, want) || e != api.OK || k != n || f != api.OK {
			t.Error(n, a, e, k, f)
		}
	}
	if a, e := share.Nth(great(), 550731776); len(a) != 0 || e != api.ErrNone {
		t.Error(a, e)
	}
}

// P10.2, P10.8: counts of drawings of any size are those that are found person by person; numbers and assignments belong together, in ascending order.
func TestAnyDraws(t *testing.T) {
	next, great := noise(3), 0
	for range 400 {
		d := noiseDraw(next, size{5, 8, 5, 3, 4})
		n, e := share.Count(d)
		if want := counted(d); n != want || e != api.OK {
			t.Fatal(d, n, e, want)
		}
		if n == 0 {
			continue
		}
		if n > 10000 {
			great++
		}
		for _, k := range []int{0, n / 2, n - 1, next(n - 1), next(n - 1)} {
			a := ok(share.Nth(d, k))
			if rule, at := obeys(d, a); rule != 0 {
				t.Fatal(d, k, a, rule, at)
			}
			if rank := ok(share.Rank(d, a)); rank != k {
				t.Fatal(d, k, a, rank)
			}
			if k+1 < n && before(a, ok(share.Nth(d, k+1))) >= 0 {
				t.Fatal(d, k, a)
			}
		}
	}
	if great < 20 {
		t.Error("too few great drawings", great)
	}
}

// P10.8: all numbers of one drawing give each assignment once.
func TestUniform(t *testing.T) {
	d := api.ShareDraw{
		Limits:  []int{1, 2, 1, 2, 3, 1},
		Offices: []api.ShareOffice{office(2, 0, 1, 2, 3), office(1, 0, 1, 2, 3, 4, 5), office(2, 1, 3, 4, 5), office(1, 2, 4)},
		Groups:  []api.ShareGroup{group(3, 0, 1, 2), group(2, 4, 5)},
	}
	var last [][]int
	n := ok(share.Count(d))
	for k := range n {
		a := ok(share.Nth(d, k))
		if rule, at := obeys(d, a); rule != 0 || k > 0 && before(last, a) >= 0 || ok(share.Rank(d, a)) != k {
			t.Fatal(k, a, rule, at, last)
		}
		last = a
	}
	if n < 100 || n != counted(d) {
		t.Error(n)
	}
}
